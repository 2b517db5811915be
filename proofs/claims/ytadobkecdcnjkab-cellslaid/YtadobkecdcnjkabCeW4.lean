/- What Apply, the reference's Apply and Zero do. -/
import Derived.Test.YtadobkecdcnjkabCeW3
import Derived.Deep.RegionHeld3
namespace Go.Proofs.Ytadobkecdcnjkab.Ce
open Go.RowKit

theorem check_yes (o : O) (n : Int) (w : World) (h : okO o n = true) :
    Calls Try.prog 18 #[(.agg #[.int .i64 o.k, .int .i64 o.c, .int .i64 o.a, .int .i64 o.v, .int .i64 o.w]), .int .i64 n] w fun e w' => e = .returned (.int .i64 0) ∧ Below w.heap.size w w' := by
  have := check_any o n w
  rwa [chk_yes h] at this
theorem check_no (o : O) (n : Int) (w : World) (h : okO o n = false) :
    Calls Try.prog 18 #[(.agg #[.int .i64 o.k, .int .i64 o.c, .int .i64 o.a, .int .i64 o.v, .int .i64 o.w]), .int .i64 n] w fun e w' => e = .returned (.int .i64 2) ∧ Below w.heap.size w w' := by
  have := check_any o n w
  rwa [chk_no h] at this
theorem is_yes (o : O) (n : Int) (w : World) (h : okO o n = true) :
    Calls Try.prog 24 #[(.agg #[.int .i64 o.k, .int .i64 o.c, .int .i64 o.a, .int .i64 o.v, .int .i64 o.w]), .int .i64 n] w fun e w' => e = .returned (.bool true) ∧ Below w.heap.size w w' := by
  have := is_any o n w
  rwa [h] at this
theorem is_no (o : O) (n : Int) (w : World) (h : okO o n = false) :
    Calls Try.prog 24 #[(.agg #[.int .i64 o.k, .int .i64 o.c, .int .i64 o.a, .int .i64 o.v, .int .i64 o.w]), .int .i64 n] w fun e w' => e = .returned (.bool false) ∧ Below w.heap.size w w' := by
  have := is_any o n w
  rwa [h] at this
theorem kept7 (w : World) (b : Nat) (v0 v1 v2 v3 v4 v5 v6 : Value) : Kept (fun i => i = b) w (((((((w.setCell ⟨b, 0, none⟩ v0).setCell ⟨b, 1, none⟩ v1).setCell ⟨b, 2, none⟩ v2).setCell ⟨b, 3, none⟩ v3).setCell ⟨b, 4, none⟩ v4).setCell ⟨b, 5, none⟩ v5).setCell ⟨b, 6, none⟩ v6) := by
  iterate 7 refine Kept.setCell ?_ _ _ (fun _ => rfl)
  exact Kept.refl _ _
/-- The two blocks that a function of a step lays first. -/
theorem two_new (w : World) (o : O) : InO ((w.alloc (.cells #[.int .i64 o.k, .int .i64 o.c, .int .i64 o.a, .int .i64 o.v, .int .i64 o.w] 24)).alloc (.cells #[.int .i64 0, .int .i64 0, .int .i64 0, .int .i64 0, .int .i64 0, .int .i64 0, .bool false] 27)) w.heap.size o ∧
    InR ((w.alloc (.cells #[.int .i64 o.k, .int .i64 o.c, .int .i64 o.a, .int .i64 o.v, .int .i64 o.w] 24)).alloc (.cells #[.int .i64 0, .int .i64 0, .int .i64 0, .int .i64 0, .int .i64 0, .int .i64 0, .bool false] 27)) (w.heap.size + 1) Rc.zero ∧
    Below w.heap.size w ((w.alloc (.cells #[.int .i64 o.k, .int .i64 o.c, .int .i64 o.a, .int .i64 o.v, .int .i64 o.w] 24)).alloc (.cells #[.int .i64 0, .int .i64 0, .int .i64 0, .int .i64 0, .int .i64 0, .int .i64 0, .bool false] 27)) ∧
    ((w.alloc (.cells #[.int .i64 o.k, .int .i64 o.c, .int .i64 o.a, .int .i64 o.v, .int .i64 o.w] 24)).alloc (.cells #[.int .i64 0, .int .i64 0, .int .i64 0, .int .i64 0, .int .i64 0, .int .i64 0, .bool false] 27)).heap.size = w.heap.size + 2 := by
  refine ⟨(inO_new w o 24).below (alloc_below _ _), ?_, q_alloc (alloc_below w _) _, by simp⟩
  have h := inR_new (w.alloc (.cells #[.int .i64 o.k, .int .i64 o.c, .int .i64 o.a, .int .i64 o.v, .int .i64 o.w] 24)) Rc.zero 27
  rw [show (w.alloc (.cells #[.int .i64 o.k, .int .i64 o.c, .int .i64 o.a, .int .i64 o.v, .int .i64 o.w] 24)).heap.size = w.heap.size + 1 by simp] at h
  exact h

set_option maxRecDepth 100000 in
set_option maxHeartbeats 1000000 in
theorem apply_no (ao : Option Addr) (n cap : Nat) (l : List Int) (o : O) (w : World) (HN : Hid (n = l.length)) (hs : n ≤ 5000) (HC : Hid (ao = none → cap = 0)) (HR : Hid (Row w ao (vals l))) (hok : Hid (okO o n = false)) :
    Calls Try.prog 6 #[.slice ao n cap, (.agg #[.int .i64 o.k, .int .i64 o.c, .int .i64 o.a, .int .i64 o.v, .int .i64 o.w])] w fun e w' => ∃ ao' cap', e = .returned (.tuple #[.slice ao' n cap', .agg #[.int .i64 0, .int .i64 0, .int .i64 0, .int .i64 0, .int .i64 0, .int .i64 0, .bool false]]) ∧ w'.ownsRow w.heap.size 2 1 (.slice ao' n cap') n (vals l) ∧ Below w.heap.size w w' := by
  obtain ⟨T1, T2, T3, T4⟩ := two_new w o
  have HI : Hid _ := T1
  have HR0 : Hid _ := T2
  have HB0 : Hid _ := T3
  have HZ : Hid _ := T4
  clear T1 T2 T3 T4
  go_enter Try.func6, Try.ntmps6
  go_wp2_with fail
  refine (cloneI_any ao n cap l _ HN.out hs HC.out (HR.out.below HB0.out)).mono ?_
  rintro e w1 ⟨ao1, cap1, rfl, own1, b1⟩
  obtain ⟨c0, c1, c2, c3, c4⟩ := HI.out.below b1
  have HO1 : Hid _ := own1
  have HB1 : Hid _ := b1
  clear own1 b1
  go_wp2_with fail
  refine (check_no o n _ hok.out).mono ?_
  rintro e w2 ⟨rfl, b2⟩
  obtain ⟨r0, r1, r2, r3, r4, r5, r6, rf⟩ := (HR0.out.below HB1.out).below b2
  have HB2 : Hid _ := b2
  clear b2 c0 c1 c2 c3 c4
  go_wp2_with fail
  refine bodyPost_ret (v := .tuple #[.slice ao1 n cap1, .agg #[.int .i64 0, .int .i64 0, .int .i64 0, .int .i64 0, .int .i64 0, .int .i64 0, .bool false]]) (by simp [results, Try.results6, go_sem, r0, r1, r2, r3, r4, r5, r6]) rfl ⟨ao1, cap1, rfl, ?_, ?_⟩
  · have h := own_below HO1.out HB2.out
    have hb := (own_row h).2.2.2
    have hz := HZ.out
    refine own_base (own_kept h (kept7 w2 (w.heap.size + 1) _ _ _ _ _ _ _) (fun i e => ?_)) (fun i e => ?_)
    · cases ao1 with
      | none => cases e
      | some a => cases e; have := (hb a rfl).1; omega
    · cases ao1 with
      | none => cases e
      | some a => cases e; have := (hb a rfl).1; omega
  · refine (q_trans (q_trans HB0.out HB1.out) HB2.out).trans ((kept7 w2 (w.heap.size + 1) _ _ _ _ _ _ _).below _ ?_ (fun i e => by omega))
    exact (q_trans (q_trans HB0.out HB1.out) HB2.out).size

set_option maxRecDepth 100000 in
set_option maxHeartbeats 1000000 in
theorem apply_yes (ao : Option Addr) (n cap : Nat) (l : List Int) (o : O) (r : Rc) (l' : List Int) (w : World) (HN : Hid (n = l.length)) (hs : n ≤ 5000) (HC : Hid (ao = none → cap = 0)) (HR : Hid (Row w ao (vals l))) (hok : Hid (okO o n = true)) (HAR : Hid (apR l o = r)) (HAV : Hid (apV l o = l')) :
    Calls Try.prog 6 #[.slice ao n cap, (.agg #[.int .i64 o.k, .int .i64 o.c, .int .i64 o.a, .int .i64 o.v, .int .i64 o.w])] w fun e w' => ∃ ao' cap', e = .returned (.tuple #[.slice ao' n cap', (.agg #[.int .i64 r.o.k, .int .i64 r.o.c, .int .i64 r.o.a, .int .i64 r.o.v, .int .i64 r.o.w, .int .i64 r.got, .bool r.ok])]) ∧ w'.ownsRow w.heap.size 2 1 (.slice ao' n cap') n (vals l') ∧ Below w.heap.size w w' := by
  obtain ⟨T1, T2, T3, T4⟩ := two_new w o
  have HI : Hid _ := T1
  have HR0 : Hid _ := T2
  have HB0 : Hid _ := T3
  have HZ : Hid _ := T4
  clear T1 T2 T3 T4
  go_enter Try.func6, Try.ntmps6
  go_wp2_with fail
  refine (cloneI_any ao n cap l _ HN.out hs HC.out (HR.out.below HB0.out)).mono ?_
  rintro e w1 ⟨ao1, cap1, rfl, own1, b1⟩
  obtain ⟨c0, c1, c2, c3, c4⟩ := HI.out.below b1
  have HO1 : Hid _ := own1
  have HB1 : Hid _ := b1
  clear own1 b1
  go_wp2_with fail
  refine (check_yes o n _ hok.out).mono ?_
  rintro e w2 ⟨rfl, b2⟩
  have HB2 : Hid _ := b2
  clear b2 c0 c1 c2 c3 c4
  obtain ⟨c0, c1, c2, c3, c4⟩ := (HI.out.below HB1.out).below HB2.out
  go_wp2_with fail
  have ch := change_any ao1 n cap1 l o w2 _ HN.out hok.out (own_below HO1.out HB2.out)
  rw [HAR.out, HAV.out] at ch
  refine ch.mono ?_
  rintro e w3 ⟨rfl, own3, k3⟩
  have hb := (own_row own3).2.2.2
  have hz := HZ.out
  have hblk : ∀ i, (Value.slice ao1 n cap1).ownBlock = some i → w.heap.size + 2 ≤ i := by
    intro i e
    cases ao1 with
    | none => cases e
    | some a => cases e; have := (hb a rfl).1; omega
  obtain ⟨r0, r1, r2, r3, r4, r5, r6, rf⟩ := ((HR0.out.below HB1.out).below HB2.out).kept k3 (fun e => by have := hblk _ e; omega)
  have HO3 : Hid _ := own3
  have HK3 : Hid _ := k3
  have HBL : Hid _ := hblk
  clear own3 k3 hb hz hblk ch c0 c1 c2 c3 c4
  go_wp2_with fail
  refine bodyPost_ret (v := .tuple #[.slice ao1 n cap1, (.agg #[.int .i64 r.o.k, .int .i64 r.o.c, .int .i64 r.o.a, .int .i64 r.o.v, .int .i64 r.o.w, .int .i64 r.got, .bool r.ok])]) (by simp [results, Try.results6, go_sem, r0, r1, r2, r3, r4, r5, r6]) rfl ⟨ao1, cap1, rfl, ?_, ?_⟩
  · refine own_base (own_kept HO3.out (kept7 w3 (w.heap.size + 1) _ _ _ _ _ _ _) (fun i e => ?_)) (fun i e => ?_)
    · have := HBL.out i e; omega
    · have := HBL.out i e; omega
  · have b := q_trans (q_trans HB0.out HB1.out) HB2.out
    have b3 := b.trans (HK3.out.below _ b.size (fun i e => by have := HBL.out i e; omega))
    exact b3.trans ((kept7 w3 (w.heap.size + 1) _ _ _ _ _ _ _).below _ b3.size (fun i e => by omega))

/-- Apply: THE VALUES BEHIND THE STEP, IN A ROW OF THEIR OWN, AND THE RECORD. -/
theorem apply_any (ao : Option Addr) (n cap : Nat) (l : List Int) (o : O) (w : World) (hn : n = l.length) (hs : n ≤ 5000) (hc : ao = none → cap = 0) (hr : Row w ao (vals l)) :
    Calls Try.prog 6 #[.slice ao n cap, (.agg #[.int .i64 o.k, .int .i64 o.c, .int .i64 o.a, .int .i64 o.v, .int .i64 o.w])] w fun e w' => ∃ ao' cap', e = .returned (.tuple #[.slice ao' n cap', (.agg #[.int .i64 (apR l o).o.k, .int .i64 (apR l o).o.c, .int .i64 (apR l o).o.a, .int .i64 (apR l o).o.v, .int .i64 (apR l o).o.w, .int .i64 (apR l o).got, .bool (apR l o).ok])]) ∧ w'.ownsRow w.heap.size 2 1 (.slice ao' n cap') n (vals (apV l o)) ∧ Below w.heap.size w w' := by
  cases hok : okO o n with
  | true => exact apply_yes ao n cap l o _ _ w hn hs hc hr hok rfl rfl
  | false =>
    rw [apV_no (hn ▸ hok), apR_no (hn ▸ hok)]
    exact apply_no ao n cap l o w hn hs hc hr hok
end Go.Proofs.Ytadobkecdcnjkab.Ce
