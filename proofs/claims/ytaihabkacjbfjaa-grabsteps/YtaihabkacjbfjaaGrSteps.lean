/- GrabSteps answers true. -/
import Derived.Test.YtaihabkacjbfjaaGrLive
import Derived.Deep.RegionHeld3
namespace Go.Proofs.Ytaihabkacjbfjaa.Gr
open Go.RowKit Go.Proofs.Ytaihabkacjbfjaa.Ce

/-- Outside of what is asked. -/
def outS (n : Nat) (t a : Int) : Prop := 300 < n ∨ t < 0 ∨ 1000000 < t ∨ a < -5 ∨ 1000000 < a
set_option maxRecDepth 100000 in
set_option maxHeartbeats 1000000 in
theorem steps_out (who p a t : Int) (bb ok : Bool) (ao : Option Addr) (n cap : Nat) (w : World) (h : outS n t a) :
    Calls Try.prog 4 #[.agg #[.int .i64 who, .slice ao n cap, .int .i64 p, .int .i64 a, .int .i64 t, .bool bb], .bool ok] w fun e w' => e = .returned (.bool true) ∧ Below w.heap.size w w' := by
  by_cases h1 : (300 : Int) < (n : Int)
  · go_enter Try.func4, Try.ntmps4
    go_wp2_with fail
    refine (live_any _).mono ?_
    rintro e w1 ⟨rfl, b1⟩
    go_wp2_with fail
    go_ret
    exact ⟨rfl, q_trans (alloc_below w _) b1⟩
  · by_cases h2 : t < 0
    · go_enter Try.func4, Try.ntmps4
      go_wp2_with fail
      refine (live_any _).mono ?_
      rintro e w1 ⟨rfl, b1⟩
      go_wp2_with fail
      go_ret
      exact ⟨rfl, q_trans (alloc_below w _) b1⟩
    · by_cases h3 : 1000000 < t
      · go_enter Try.func4, Try.ntmps4
        go_wp2_with fail
        refine (live_any _).mono ?_
        rintro e w1 ⟨rfl, b1⟩
        go_wp2_with fail
        go_ret
        exact ⟨rfl, q_trans (alloc_below w _) b1⟩
      · by_cases h4 : a < -5
        · go_enter Try.func4, Try.ntmps4
          go_wp2_with fail
          refine (live_any _).mono ?_
          rintro e w1 ⟨rfl, b1⟩
          go_wp2_with fail
          go_ret
          exact ⟨rfl, q_trans (alloc_below w _) b1⟩
        · have h5 : 1000000 < a := by unfold outS at h; omega
          clear h
          go_enter Try.func4, Try.ntmps4
          go_wp2_with fail
          refine (live_any _).mono ?_
          rintro e w1 ⟨rfl, b1⟩
          go_wp2_with fail
          go_ret
          exact ⟨rfl, q_trans (alloc_below w _) b1⟩
theorem eqO_same (o : O) (w : World) : (Op.equalIn 10000 35 (.agg #[.int .i64 o.k, .int .i64 o.c, .int .i64 o.a, .int .i64 o.v, .int .i64 o.w]) (.agg #[.int .i64 o.k, .int .i64 o.c, .int .i64 o.a, .int .i64 o.v, .int .i64 o.w])).run Try.prog w = .ok true w := by
  rw [show (10000 : Nat) = 9998 + 2 from rfl, eq5, eqO_iff.2 rfl]
/-- What stands in each world of the last statement. -/
abbrev SS (W : World) (g : G) (o : O) (ao : Option Addr) (n cap p q r : Nat) (w : World) : Prop :=
  w.cell? ⟨p, 0, none⟩ = some (.int .i64 g.w) ∧ w.cell? ⟨p, 1, none⟩ = some (.slice ao n cap) ∧ w.cell? ⟨p, 2, none⟩ = some (.int .i64 g.p) ∧ w.cell? ⟨p, 3, none⟩ = some (.int .i64 g.a) ∧ w.cell? ⟨p, 4, none⟩ = some (.int .i64 g.t) ∧ w.cell? ⟨p, 5, none⟩ = some (.bool g.b) ∧
  w.cell? ⟨q, 0, none⟩ = some (.int .i64 o.k) ∧ w.cell? ⟨q, 1, none⟩ = some (.int .i64 o.c) ∧ w.cell? ⟨q, 2, none⟩ = some (.int .i64 o.a) ∧ w.cell? ⟨q, 3, none⟩ = some (.int .i64 o.v) ∧ w.cell? ⟨q, 4, none⟩ = some (.int .i64 o.w) ∧
  w.cell? ⟨r, 0, none⟩ = some (.int .i64 o.k) ∧ w.cell? ⟨r, 1, none⟩ = some (.int .i64 o.c) ∧ w.cell? ⟨r, 2, none⟩ = some (.int .i64 o.a) ∧ w.cell? ⟨r, 3, none⟩ = some (.int .i64 o.v) ∧ w.cell? ⟨r, 4, none⟩ = some (.int .i64 o.w) ∧
  Hid (Has w ao n cap g.cs) ∧ Hid (Below W.heap.size W w)
section
variable {W w w' : World} {g : G} {o : O} {ao : Option Addr} {n cap p q r : Nat}
theorem ss_of (h1 : InG w p g.w (.slice ao n cap) g.p g.a g.t g.b) (h2 : InO w q o) (h3 : InO w r o) (h4 : Has w ao n cap g.cs) (h5 : Below W.heap.size W w) : SS W g o ao n cap p q r w :=
  ⟨h1.c0, h1.c1, h1.c2, h1.c3, h1.c4, h1.c5, h2.c0, h2.c1, h2.c2, h2.c3, h2.c4, h3.c0, h3.c1, h3.c2, h3.c3, h3.c4, h4, h5⟩
theorem ss_keep (hb : Below w.heap.size w w') (h : SS W g o ao n cap p q r w) : SS W g o ao n cap p q r w' := by
  obtain ⟨a0, a1, a2, a3, a4, a5, b0, b1, b2, b3, b4, c0, c1, c2, c3, c4, h1, h2⟩ := h
  have k : ∀ {a : Addr} {v : Value}, w.cell? a = some v → w'.cell? a = some v := fun h => (hb.cell (World.block_lt_of_cell? w _ h)).trans h
  exact ⟨k a0, k a1, k a2, k a3, k a4, k a5, k b0, k b1, k b2, k b3, k b4, k c0, k c1, k c2, k c3, k c4, h1.out.below hb, q_trans h2.out hb⟩
theorem ss_has (h : SS W g o ao n cap p q r w) : Has w ao n cap g.cs := h.2.2.2.2.2.2.2.2.2.2.2.2.2.2.2.2.1.out
theorem ss_low (h : SS W g o ao n cap p q r w) : Below W.heap.size W w := h.2.2.2.2.2.2.2.2.2.2.2.2.2.2.2.2.2.out
theorem ss_drew (h : SS W g o ao n cap p q r w) : SS W g o ao n cap p q r w.drew := ss_keep (Below.refl _ w).drew h
end
set_option maxRecDepth 100000 in
set_option maxHeartbeats 4000000 in
theorem steps_in (g : G) (ok : Bool) (ao : Option Addr) (n cap : Nat) (w : World) (HH : Hid (Has w ao n cap g.cs)) (h1 : (n : Int) ≤ 300) (h2 : 0 ≤ g.t) (h3 : g.t ≤ 1000000) (h4 : -5 ≤ g.a) (h5 : g.a ≤ 1000000) :
    Calls Try.prog 4 #[(.agg #[.int .i64 g.w, .slice ao n cap, .int .i64 g.p, .int .i64 g.a, .int .i64 g.t, .bool g.b]), .bool ok] w fun e w' => e = .returned (.bool true) ∧ Below w.heap.size w w' := by
  have hn : n ≤ 5000 := by omega
  have CN := hid (fun W (H : Has W ao n cap g.cs) => next_any g ao n cap W H hn ⟨h4, h5⟩)
  have CR := hid (fun W (H : Has W ao n cap g.cs) => rnext_any g ao n cap W H hn)
  have CT := hid (fun W (H : Has W ao n cap g.cs) => take_any g ok ao n cap W H hn ⟨h4, h5⟩ ⟨h2, h3⟩)
  have CRT := hid (fun W (H : Has W ao n cap g.cs) => rtake_any g ok ao n cap W H hn ⟨h4, h5⟩ ⟨h2, h3⟩)
  have CF := hid (fun W (H : Has W ao n cap g.cs) => free_any g ao n cap W H hn)
  have CRF := hid (fun W (H : Has W ao n cap g.cs) => rfree_any g ao n cap W H.len)
  have CH := hid (fun W (H : Has W ao n cap g.cs) => held_any g ao n cap W H hn)
  have CRH := hid (fun W (H : Has W ao n cap g.cs) => rheld_any g ao n cap W H)
  have HN := hid hn
  have HLH : Hid ((heldG g).length ≤ 5000) := by
    have := HH.out.len
    unfold heldG
    rw [List.length_take]
    show _ ≤ _
    omega
  generalize nxO g = o at CN CR
  generalize hasN g = hb at CN CR
  generalize takeG g ok = g1 at CT CRT
  generalize freeG g = g2 at CF CRF
  generalize heldG g = lh at CH CRH HLH
  go_enter Try.func4, Try.ntmps4
  go_wp2_with fail
  refine (CN.out _ (HH.out.below (alloc_below w _))).mono ?_
  rintro e w1 ⟨rfl, b1⟩
  have HG1 := hid ((inG_new w g.w (.slice ao n cap) g.p g.a g.t g.b 25).below b1)
  have HH1 := hid ((HH.out.below (alloc_below w _)).below b1)
  have HB1 := hid (q_trans (alloc_below w _) b1)
  clear b1 HH CN
  obtain ⟨c0, c1, c2, c3, c4, c5, cf⟩ := HG1.out
  have l1 : w.heap.size < w1.heap.size := HG1.out.lt
  go_wp2_with fail
  clear c0 c1 c2 c3 c4 c5 cf l1
  refine (CR.out _ (HH1.out.below (alloc_below _ _))).mono ?_
  rintro e w2 ⟨rfl, b2⟩
  have HG2 := hid ((HG1.out.below (alloc_below _ _)).below b2)
  have HO2 := hid ((inO_new w1 o 35).below b2)
  have HH2 := hid ((HH1.out.below (alloc_below _ _)).below b2)
  have HB2 := hid (q_trans (q_alloc HB1.out _) b2)
  clear b2 HH1 HG1 HB1 CR
  go_wp2_with fail
  have HS := hid (ss_of (W := w) (HG2.out.below (alloc_below _ _)) (HO2.out.below (alloc_below _ _)) (inO_new w2 o 35) (HH2.out.below (alloc_below _ _)) (q_alloc HB2.out _))
  generalize w2.alloc _ = W at HS ⊢
  clear HG2 HO2 HH2 HB2
  have hS := HS.out
  obtain ⟨k1, k2, k3, k4, k5, k6, k7, k8, k9, k10, k11, k12, k13, k14, k15, k16, -, -⟩ := HS.out
  have he := eqO_same o
  clear h1 h2 h3 h4 h5 hn
  go_region_held3 (SS w g o ao n cap w.heap.size w1.heap.size w2.heap.size) (first | assumption | exact ss_keep (by assumption) (by assumption) | exact ss_drew (by assumption))
    (first
      | (go_at_call 16; refine (CT.out _ (ss_has (by assumption))).mono ?_; rintro e w' ⟨ao5, cap5, rfl, m5, b⟩; have T5 := hid m5.has; clear m5)
      | (go_at_call 17; refine (CRT.out _ (ss_has (by assumption))).mono ?_; rintro e w' ⟨rfl, b⟩; have T6 := hid (T5.out.below b))
      | (go_at_call 18; refine (CF.out _ (ss_has (by assumption))).mono ?_; rintro e w' ⟨ao7, cap7, rfl, m7, b⟩; have T7 := hid m7.has; clear m7)
      | (go_at_call 19; refine (CRF.out _ (ss_has (by assumption))).mono ?_; rintro e w' ⟨rfl, b⟩; have T8 := hid (T7.out.below b))
      | (go_at_call 12; refine (same_yes _ _ _ _ _ _ _ _ _ _ g.cs _ HN (by first | exact T8 | exact T6) (ss_has (by assumption))).mono ?_; rintro e w' ⟨rfl, b⟩)
      | (go_at_call 21; refine (CH.out _ (ss_has (by assumption))).mono ?_; rintro e w' ⟨ao9, m9, cap9, rfl, mm9, b⟩; obtain rfl := mm9.has.len; have T9 := hid mm9.has; clear mm9)
      | (go_at_call 22; refine (CRH.out _ (ss_has (by assumption))).mono ?_; rintro e w' ⟨rfl, hA, b⟩; have TA := hid (T9.out.below b); have TB := hid (hA.below b); clear hA)
      | (go_at_call 20; refine (ints_yes ao9 ao lh.length cap9 cap lh _ HLH.out TA TB).mono ?_; rintro e w' ⟨rfl, b⟩)
      | (go_at_call 9; refine (live_any _).mono ?_; rintro e w' ⟨rfl, b⟩))
  all_goals
    go_wp2_with fail
    go_ret
    exact ⟨rfl, ss_low (g := g) (o := o) (ao := ao) (n := n) (cap := cap) (p := w.heap.size) (q := w1.heap.size) (r := w2.heap.size) (by assumption)⟩
/-- EVERY ONE THERE MAY BE. -/
theorem steps_any (g : G) (ok : Bool) (ao : Option Addr) (n cap : Nat) (w : World) (H : Has w ao n cap g.cs) :
    Calls Try.prog 4 #[(.agg #[.int .i64 g.w, .slice ao n cap, .int .i64 g.p, .int .i64 g.a, .int .i64 g.t, .bool g.b]), .bool ok] w fun e w' => e = .returned (.bool true) ∧ Below w.heap.size w w' := by
  by_cases h : outS n g.t g.a
  · exact steps_out g.w g.p g.a g.t g.b ok ao n cap w h
  · unfold outS at h
    exact steps_in g ok ao n cap w H (by omega) (by omega) (by omega) (by omega) (by omega)
end Go.Proofs.Ytaihabkacjbfjaa.Gr
