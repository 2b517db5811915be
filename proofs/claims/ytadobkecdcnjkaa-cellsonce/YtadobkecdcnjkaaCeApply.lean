/- The walk of CellsApply: it answers true. -/
import Derived.Test.YtadobkecdcnjkaaCeLive
namespace Go.Proofs.Ytadobkecdcnjkaa.Ce
open Go.RowKit

theorem own0a (w : World) (o : Obj) (E : TypeId) (size : Nat) : ((w.alloc o).alloc (.cells #[] E)).ownsRow w.heap.size E size (.slice (some ⟨w.heap.size + 1, 0, none⟩) 0 0) 0 [] := by
  have := World.ownsRow_made (base := w.heap.size) (e := E) (size := size) (w.alloc o) #[] 0 (by simp) (by decide) (by simp)
  simpa using this
theorem app_below_a {w w1 : World} {o : Obj} {E : TypeId} {n c : Nat} (h : ((w.alloc o).alloc (.cells #[] E)).grownBy w1 (Value.ownBlock (.slice (some ⟨w.heap.size + 1, 0, none⟩) n c))) : Below w.heap.size w w1 :=
  (q_alloc (alloc_below w o) _).grown h (q_alloc (alloc_below w o) _).size (fun k e => by cases e; show w.heap.size ≤ w.heap.size + 1; omega)
theorem app_below_b {w w1 : World} {o : Obj} {E : TypeId} {n c : Nat} (h : ((w.alloc o).alloc (.cells #[] E)).grownBy w1 (Value.ownBlock (.slice (some ⟨w.heap.size + 1, 0, none⟩) n c))) : Below (w.alloc o).heap.size (w.alloc o) w1 :=
  (alloc_below (w.alloc o) _).grown h (alloc_below (w.alloc o) _).size (fun k e => by cases e; simp)
set_option maxRecDepth 100000 in
set_option maxHeartbeats 1000000 in
theorem capply_long (ao : Option Addr) (n cap : Nat) (o : O) (w : World) (hn : 100 < n) (hn2 : n ≤ 9223372036854775807) :
    Calls Try.prog 4 #[.slice ao n cap, (.agg #[.int .i64 o.k, .int .i64 o.c, .int .i64 o.a, .int .i64 o.v, .int .i64 o.w])] w fun e w' => e = .returned (.bool true) ∧ Below w.heap.size w w' := by
  go_enter Try.func4, Try.ntmps4
  go_wp2_with fail
  refine (live_any _).mono ?_
  rintro e w6 ⟨rfl, b6⟩
  have HB := hid (q_trans (alloc_below w _) b6)
  clear b6
  go_wp2_with fail
  go_ret
  exact ⟨rfl, HB.out⟩

set_option maxRecDepth 100000 in
set_option maxHeartbeats 1000000 in
theorem capply_short (ao : Option Addr) (n cap : Nat) (l : List Int) (o : O) (r : Rc) (l' : List Int) (w : World) (hn : n ≤ 100) (HN : Hid (n = l.length)) (HC : Hid (ao = none → cap = 0)) (HR : Hid (Row w ao (vals l))) (HAR : Hid (apR l o = r)) (HAV : Hid (apV l o = l')) (HL' : Hid (n = l'.length)) :
    Calls Try.prog 4 #[.slice ao n cap, (.agg #[.int .i64 o.k, .int .i64 o.c, .int .i64 o.a, .int .i64 o.v, .int .i64 o.w])] w fun e w' => e = .returned (.bool true) ∧ Below w.heap.size w w' := by
  have he := eq7 r r
  rw [eqRc_iff.2 rfl] at he
  go_enter Try.func4, Try.ntmps4
  have HB0 := hid (alloc_below w (.cells #[.int .i64 o.k, .int .i64 o.c, .int .i64 o.a, .int .i64 o.v, .int .i64 o.w] 36))
  have HI0 := hid (inO_new w o 36)
  go_wp2_with (at_builtin; go_loud (refine wpList_append_row _ rfl (.tmp 14) (.tmp 15) 30 2 _ 1 8 rfl Try.underlying30 infoI rfl (by decide) (by decide) w.heap.size _ 0 [] rfl (own0a w _ 2 1) ao n cap (vals l) rfl (by have := HN.out; simp; omega) HC.out ((HR.out.below HB0.out).below (alloc_below _ _)) (vals_one l) (by omega) (q_alloc (alloc_below w _) _).size ?_; intro ao1 cap1 w1 own1 grow1; apply Hid.out))
  have b1 := app_below_b grow1
  rw [Nat.zero_add, List.nil_append] at own1
  have HB1 := hid (app_below_a grow1)
  have HI1 := hid (HI0.out.below b1)
  obtain ⟨R1, -, N1, -⟩ := own_row own1
  have HR1 := hid R1
  have HN1 := hid N1
  clear own1 grow1 b1 R1 N1
  obtain ⟨c0, c1, c2, c3, c4⟩ := HI1.out
  unfold Hid
  go_wp2_with fail
  have ap := apply_any ao1 n cap1 l o w1 HN.out (by omega) HN1.out HR1.out
  rw [HAR.out, HAV.out] at ap
  refine ap.mono ?_
  rintro e w2 ⟨ao2, cap2, rfl, own2, b2⟩
  obtain ⟨R2, -, N2, -⟩ := own_row own2
  have HR2 := hid (R2.below (alloc_below w2 (.cells #[.int .i64 r.o.k, .int .i64 r.o.c, .int .i64 r.o.a, .int .i64 r.o.v, .int .i64 r.o.w, .int .i64 r.got, .bool r.ok] 38)))
  have HB2 := hid (q_alloc (q_trans HB1.out b2) (.cells #[.int .i64 r.o.k, .int .i64 r.o.c, .int .i64 r.o.a, .int .i64 r.o.v, .int .i64 r.o.w, .int .i64 r.got, .bool r.ok] 38))
  have HI2 := hid ((HI1.out.below b2).below (alloc_below w2 (.cells #[.int .i64 r.o.k, .int .i64 r.o.c, .int .i64 r.o.a, .int .i64 r.o.v, .int .i64 r.o.w, .int .i64 r.got, .bool r.ok] 38)))
  have HQ2 := hid (inR_new w2 r 38)
  have HG2 := hid ((HR1.out.below b2).below (alloc_below w2 (.cells #[.int .i64 r.o.k, .int .i64 r.o.c, .int .i64 r.o.a, .int .i64 r.o.v, .int .i64 r.o.w, .int .i64 r.got, .bool r.ok] 38)))
  clear own2 R2 N2 ap b2 c0 c1 c2 c3 c4
  obtain ⟨c0, c1, c2, c3, c4⟩ := HI2.out
  go_wp2_with fail
  have ra := rapply_any ao n cap l o _ HN.out (by omega) HC.out (HR.out.below HB2.out)
  rw [HAR.out, HAV.out] at ra
  refine ra.mono ?_
  rintro e w3 ⟨ao3, cap3, rfl, R3, N3, -, b3⟩
  generalize hW : w3.alloc (.cells #[.int .i64 r.o.k, .int .i64 r.o.c, .int .i64 r.o.a, .int .i64 r.o.v, .int .i64 r.o.w, .int .i64 r.got, .bool r.ok] 38) = W
  have hw3 : Below w3.heap.size w3 W := hW ▸ alloc_below w3 _
  have HR3 := hid (R3.below hw3)
  have HR2' := hid ((HR2.out.below b3).below hw3)
  have HG3 := hid ((HG2.out.below b3).below hw3)
  have HL3 := hid (((HR.out.below HB2.out).below b3).below hw3)
  have HB3 := hid (q_trans (q_trans HB2.out b3) hw3)
  have HQ3 := hid ((HQ2.out.below b3).below hw3)
  have HP3 : Hid (InR W w3.heap.size r) := hW ▸ inR_new w3 r 38
  clear R3 N3 ra b3 c0 c1 c2 c3 c4
  go_wp2_with fail
  clear hW
  refine (values_true ao2 ao3 n cap2 cap3 l' W (by omega) HL'.out HR2'.out HR3.out).mono ?_
  rintro e w4 ⟨rfl, nd, rfl⟩
  obtain ⟨r0, r1, r2, r3, r4, r5, r6, -⟩ := HQ3.out
  obtain ⟨s0, s1, s2, s3, s4, s5, s6, -⟩ := HP3.out
  go_wp2_with fail
  refine (values_true ao1 ao n cap1 cap l _ (by omega) HN.out (HG3.out.below (drewN_below _ _)) (HL3.out.below (drewN_below _ _))).mono ?_
  rintro e w5 ⟨rfl, nd2, rfl⟩
  clear r0 r1 r2 r3 r4 r5 r6 s0 s1 s2 s3 s4 s5 s6
  go_wp2_with fail
  refine (live_any _).mono ?_
  rintro e w6 ⟨rfl, b6⟩
  have HB := hid (q_trans (q_trans HB3.out (drewN_below _ _)) b6)
  clear b6
  go_wp2_with fail
  go_ret
  exact ⟨rfl, HB.out⟩

theorem capply_any (ao : Option Addr) (l : List Int) (n cap : Nat) (o : O) (w : World) (hl : n = l.length) (hn : n ≤ 9223372036854775807) (hc : ao = none → cap = 0) (hr : Row w ao (vals l)) :
    Calls Try.prog 4 #[.slice ao n cap, (.agg #[.int .i64 o.k, .int .i64 o.c, .int .i64 o.a, .int .i64 o.v, .int .i64 o.w])] w fun e w' => e = .returned (.bool true) ∧ Below w.heap.size w w' := by
  by_cases h : n ≤ 100
  · exact capply_short ao n cap l o _ _ w h hl hc hr rfl rfl (by rw [apV_len]; exact hl)
  · exact capply_long ao n cap o w (by omega) hn
end Go.Proofs.Ytadobkecdcnjkaa.Ce
