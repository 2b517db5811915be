/- What the document's Parse does. -/
import Derived.Test.YtilannincbcgkaaDoorKlR2
import Derived.Test.YtilannincbcgkaaDoorKlR3
namespace Go.Proofs.YtilannincbcgkaaDoor.Kl
open Go.RowKit
open Ad (q_trans q_alloc q_set ret_int ret_bool hid Later wp_region_later later_call)

set_option maxRecDepth 100000 in
set_option maxHeartbeats 1000000 in
theorem rparse_len (ao : Option Addr) (n cap : Nat) (l : List Int) (w : World) (h : Hid (n = l.length)) (hn : n ≠ 4) : Calls Tryd.prog 12 #[.slice ao n cap] w (ParR l w) := by
  have HP := hid (par_no (par_len (l := l) (by rw [← h.out]; exact hn)))
  have hd : ((n : Int) != 4) = true := by simp; omega
  go_enter Tryd.func12, Tryd.ntmps12
  go_wp2_with fail
  refine bodyPost_ret (v := .tuple #[.agg #[.int .i64 0, .int .u64 0, .int .u64 0, .int .i64 0, .int .i64 0, .int .i64 0, .int .i64 0, .int .i64 0], .int .i64 150]) (by simp [results, Tryd.results12, go_sem]) rfl ⟨by rw [HP.out.1, HP.out.2]; rfl, ?_⟩
  repeat (first | exact q_alloc (Below.refl _ _) _ | refine q_set ?_ (by simp) _)
theorem sq_alloc {a : Addr} {y z u : Int} {w : World} {o : Obj} (h : SQ a y z u w) : SQ a y z u (w.alloc o) :=
  have hb := q_alloc (Below.refl _ w) o
  ⟨(hb.cell (p := ⟨a.block, a.off + 1, none⟩) (cell_lt h.1)).trans h.1, (hb.cell (p := ⟨a.block, a.off + 2, none⟩) (cell_lt h.2.1)).trans h.2.1, (hb.cell (p := ⟨a.block, a.off + 3, none⟩) (cell_lt h.2.2)).trans h.2.2⟩
theorem gp_wrap (x : Int) (i : Nat) : IntKind.i64.wrap (gp x i) = gp x i := by
  have := gp_range x i
  exact wrap_i64 (by omega) (by omega)
set_option maxRecDepth 100000 in
set_option maxHeartbeats 2000000 in
theorem rparse_four (a : Addr) (cap : Nat) (x y z u : Int) (w : World) (hH : HasU w (some a) 4 cap [x, y, z, u]) (hl : ∀ i ∈ [x, y, z, u], U64 i) (hA : At4 w a x y z u) : Calls Tryd.prog 12 #[.slice (some a) 4 cap] w (ParR [x, y, z, u] w) := by
  have HX : Hid (U64 x) := hl x (by simp)
  have HW := hid (parW_wf hl)
  have HU := hid hl
  have HH := hid hH
  have HA := hid hA
  have hab := hid hA.lt
  have HO1 := hid (own_new w C.zero 24)
  have HB0 := hid (q_alloc (Below.refl _ w) (.cells #[.int .i64 C.zero.k, .int .u64 C.zero.a, .int .u64 C.zero.b, .int .i64 C.zero.r, .int .i64 C.zero.g, .int .i64 C.zero.t, .int .i64 C.zero.s, .int .i64 C.zero.v] 24))
  have HA0 := hid (hA.below HB0.out)
  have g0 : IntKind.i64.wrap (getT x 0 4) = getT x 0 4 := gp_wrap x 0
  have g1 : IntKind.i64.wrap (getT x 4 4) = getT x 4 4 := gp_wrap x 1
  have g2 : IntKind.i64.wrap (getT x 8 4) = getT x 8 4 := gp_wrap x 2
  have g3 : IntKind.i64.wrap (getT x 12 16) = getT x 12 16 := gp_wrap x 3
  have g4 : IntKind.i64.wrap (getT x 28 21) = getT x 28 21 := gp_wrap x 4
  obtain ⟨vv, hv⟩ : ∃ vv, IntKind.i64.wrap u = vv := ⟨_, rfl⟩
  have HPt : Hid (∀ W : World, Calls Tryd.prog 10 #[.agg #[.int .i64 (getT x 0 4), .int .u64 y, .int .u64 z, .int .i64 (getT x 4 4), .int .i64 (getT x 12 16), .int .i64 (getT x 8 4), .int .i64 (getT x 28 21), .int .i64 vv]] W (PutR (parW [x, y, z, u]) W)) := fun W => by
    rw [← hv]
    exact rput_c (parW [x, y, z, u]) W HW.out
  have HPW : Hid (((.agg #[.int .i64 (parW [x, y, z, u]).k, .int .u64 (parW [x, y, z, u]).a, .int .u64 (parW [x, y, z, u]).b, .int .i64 (parW [x, y, z, u]).r, .int .i64 (parW [x, y, z, u]).g, .int .i64 (parW [x, y, z, u]).t, .int .i64 (parW [x, y, z, u]).s, .int .i64 (parW [x, y, z, u]).v]) : Value) = .agg #[.int .i64 (getT x 0 4), .int .u64 y, .int .u64 z, .int .i64 (getT x 4 4), .int .i64 (getT x 12 16), .int .i64 (getT x 8 4), .int .i64 (getT x 28 21), .int .i64 vv]) := by
    rw [← hv]; rfl
  have hc0 := hA.c0
  have hlt := hA.lt
  clear hl hA hH
  go_enter Tryd.func12, Tryd.ntmps12
  go_wp2_with fail
  have hS : SQ a y z u (w.alloc (.cells #[.int .i64 0, .int .u64 0, .int .u64 0, .int .i64 0, .int .i64 0, .int .i64 0, .int .i64 0, .int .i64 0] 24)) := ⟨HA0.out.c1, HA0.out.c2, HA0.out.c3⟩
  replace HO1 : Hid (Own (w.alloc (.cells #[.int .i64 0, .int .u64 0, .int .u64 0, .int .i64 0, .int .i64 0, .int .i64 0, .int .i64 0, .int .i64 0] 24)) w.heap.size C.zero) := HO1
  replace HB0 : Hid (Below w.heap.size w (w.alloc (.cells #[.int .i64 0, .int .u64 0, .int .u64 0, .int .i64 0, .int .i64 0, .int .i64 0, .int .i64 0, .int .i64 0] 24))) := HB0
  clear hc0 HA0 hlt
  generalize w.alloc (.cells #[.int .i64 0, .int .u64 0, .int .u64 0, .int .i64 0, .int .i64 0, .int .i64 0, .int .i64 0, .int .i64 0] 24) = W at *
  go_region_held3 (SQ a y z u) (first | with_reducible assumption | (repeat (first | with_reducible exact hS | with_reducible refine sq_drew ?_ | with_reducible refine sq_alloc ?_))) (first | (go_at_call 24; refine (rget_any _ _ _ _ HX.out).mono ?_; rintro e w' ⟨rfl, hw⟩; rw [hw]; clear hw w') | fail)
  all_goals go_wp2_with fail
  all_goals (
    have HO5 := hid ((own_new W ⟨getT x 0 4, y, z, getT x 4 4, getT x 12 16, getT x 8 4, getT x 28 21, vv⟩ 24).below (Below.refl _ _).drew)
    have HZ5 := hid ((HO1.out.alloc (.cells #[.int .i64 (getT x 0 4), .int .u64 y, .int .u64 z, .int .i64 (getT x 4 4), .int .i64 (getT x 12 16), .int .i64 (getT x 8 4), .int .i64 (getT x 28 21), .int .i64 vv] 24)).below (Below.refl _ _).drew)
    have HB5 := hid (q_alloc HB0.out (.cells #[.int .i64 (getT x 0 4), .int .u64 y, .int .u64 z, .int .i64 (getT x 4 4), .int .i64 (getT x 12 16), .int .i64 (getT x 8 4), .int .i64 (getT x 28 21), .int .i64 vv] 24)).drew
    have HL := hid (par_legs (l := [x, y, z, u]) rfl)
    clear hS HO1 HB0 g0 g1 g2 g3 g4
    generalize (W.alloc (.cells #[.int .i64 (getT x 0 4), .int .u64 y, .int .u64 z, .int .i64 (getT x 4 4), .int .i64 (getT x 12 16), .int .i64 (getT x 8 4), .int .i64 (getT x 28 21), .int .i64 vv] 24)).drew = V at *
    refine (HPt.out V).mono ?_
    rintro e w2 ⟨bo, m, bc, rfl, HM, b2⟩
    have HE := hid (q_trans HB5.out b2)
    have HH2 := hid (HH.out.below HE.out)
    have HI2 := hid (HO5.out.below b2)
    have HZ2 := hid (HZ5.out.below b2)
    have HM2 := hid HM.has
    clear HM b2 HPt HO5 HZ5 HB5
    have hL := HL.out
    clear HL
    rcases hL with ⟨hb, e1, e2, e3⟩ | ⟨hb, e1, e2⟩ | ⟨hb, e1, e2, e3⟩
    · have HN := hid (par_yes hb)
      have hw := (wds_par HU.out hb).2.1
      rw [HN.out.1] at hw
      rw [e1, hw] at HM2
      rw [e2]
      have hm := HM2.out.len
      simp only [List.length_cons, List.length_nil] at hm
      obtain rfl : m = 4 := hm
      clear e1 e2 e3 hb hw
      go_wp2_with fail
      refine (words_any _ _ _ _ _ _ _ _ _ HM2.out HH2.out (by omega) (by omega) true (decide_eq_true rfl)).mono ?_
      rintro e w3 ⟨rfl, b3⟩
      have HE3 := hid (q_trans HE.out b3)
      obtain ⟨⟨z0, z1, z2, z3, z4, z5, z6, z7⟩, zf⟩ := HZ2.out.below b3
      obtain ⟨⟨p0, p1, p2, p3, p4, p5, p6, p7⟩, pf⟩ := HI2.out.below b3
      dsimp only at p0 p1 p2 p3 p4 p5 p6 p7
      clear b3 HM2 HH2
      go_wp2_with fail
      refine bodyPost_ret (v := .tuple #[.agg #[.int .i64 (getT x 0 4), .int .u64 y, .int .u64 z, .int .i64 (getT x 4 4), .int .i64 (getT x 12 16), .int .i64 (getT x 8 4), .int .i64 (getT x 28 21), .int .i64 vv], .int .i64 0]) (by simp [results, Tryd.results12, go_sem, *]) rfl ⟨by rw [HN.out.1, HN.out.2, HPW.out], ?_⟩
      exact q_set (q_set (q_set (q_set (q_set (q_set (q_set (q_set HE3.out (Nat.le_refl _) _) (Nat.le_refl _) _) (Nat.le_refl _) _) (Nat.le_refl _) _) (Nat.le_refl _) _) (Nat.le_refl _) _) (Nat.le_refl _) _) (Nat.le_refl _) _
    · have HN := hid (par_no hb)
      rw [e2]
      clear e1 e2 hb HM2
      obtain ⟨⟨z0, z1, z2, z3, z4, z5, z6, z7⟩, zf⟩ := HZ2.out
      have HE3 := HE
      go_wp2_with fail
      refine bodyPost_ret (v := .tuple #[.agg #[.int .i64 0, .int .u64 0, .int .u64 0, .int .i64 0, .int .i64 0, .int .i64 0, .int .i64 0, .int .i64 0], .int .i64 150]) (by simp [results, Tryd.results12, go_sem, *]) rfl ⟨by rw [HN.out.1, HN.out.2]; rfl, ?_⟩
      exact q_set (q_set (q_set (q_set (q_set (q_set (q_set (q_set HE3.out (Nat.le_refl _) _) (Nat.le_refl _) _) (Nat.le_refl _) _) (Nat.le_refl _) _) (Nat.le_refl _) _) (Nat.le_refl _) _) (Nat.le_refl _) _) (Nat.le_refl _) _
    · have HN := hid (par_no hb)
      rw [e1] at HM2
      rw [e2]
      have hm := HM2.out.len
      have hm4 : m ≤ 1000 := by rw [hm]; simp [wds]
      have HD : Hid (decide (wds (parW [x, y, z, u]) = [x, y, z, u]) = false) := by
        refine decide_eq_false (fun e => e3 ?_)
        exact congrArg (fun l => l.getD 0 0) e
      clear e1 e2 e3 hb hm
      go_wp2_with fail
      refine (words_any _ _ _ _ _ _ _ _ _ HM2.out HH2.out hm4 (by omega) false HD).mono ?_
      rintro e w3 ⟨rfl, b3⟩
      have HE3 := hid (q_trans HE.out b3)
      obtain ⟨⟨z0, z1, z2, z3, z4, z5, z6, z7⟩, zf⟩ := HZ2.out.below b3
      clear b3 HM2 HH2
      go_wp2_with fail
      refine bodyPost_ret (v := .tuple #[.agg #[.int .i64 0, .int .u64 0, .int .u64 0, .int .i64 0, .int .i64 0, .int .i64 0, .int .i64 0, .int .i64 0], .int .i64 150]) (by simp [results, Tryd.results12, go_sem, *]) rfl ⟨by rw [HN.out.1, HN.out.2]; rfl, ?_⟩
      exact q_set (q_set (q_set (q_set (q_set (q_set (q_set (q_set HE3.out (Nat.le_refl _) _) (Nat.le_refl _) _) (Nat.le_refl _) _) (Nat.le_refl _) _) (Nat.le_refl _) _) (Nat.le_refl _) _) (Nat.le_refl _) _) (Nat.le_refl _) _)
/-- THE DOCUMENT's PARSE. -/
theorem rparse_any (ao : Option Addr) (n cap : Nat) (l : List Int) (w : World) (hl : ∀ i ∈ l, U64 i) (h : HasU w ao n cap l) : Calls Tryd.prog 12 #[.slice ao n cap] w (ParR l w) := by
  by_cases h4 : l.length = 4
  · obtain ⟨x, y, z, u, rfl⟩ := four_of h4
    obtain ⟨a, rfl, rfl, hA⟩ := at4_of h
    exact rparse_four a cap x y z u w h hl hA
  · exact rparse_len ao n cap l w h.len (by rw [h.len]; exact h4)
end Go.Proofs.YtilannincbcgkaaDoor.Kl
