/- What the document's Next does. -/
import Derived.Test.YtaihabkacjbfjaaGrW2
namespace Go.Proofs.Ytaihabkacjbfjaa.Gr
open Go.RowKit Go.Proofs.Ytaihabkacjbfjaa.Ce

set_option maxRecDepth 100000 in
set_option maxHeartbeats 1000000 in
theorem rnext_try (who : Int) (k : Nat) (t : Int) (bb : Bool) (ao : Option Addr) (n cap : Nat) (l : List Int) (w : World) (H : Hid (Has w ao n cap l)) (hk : k < n) :
    Calls Try.prog 15 #[.agg #[.int .i64 who, .slice ao n cap, .int .i64 1, .int .i64 (k : Int), .int .i64 t, .bool bb]] w fun e w' => e = .returned (.tuple #[.agg #[.int .i64 4, .int .i64 (l.getD k 0), .int .i64 0, .int .i64 0, .int .i64 who], .bool true]) ∧ Below w.heap.size w w' := by
  have i1 : (0 : Int) ≤ (k : Int) := by omega
  have i2 : (k : Int) < (n : Int) := by omega
  obtain ⟨a, e, hc⟩ := ((H.out.below (alloc_below w (.cells #[.int .i64 who, .slice ao n cap, .int .i64 1, .int .i64 (k : Int), .int .i64 t, .bool bb] 25))).below (alloc_below _ (.cells #[.int .i64 0, .int .i64 0, .int .i64 0, .int .i64 0, .int .i64 0] 35))).cell k hk
  subst e
  obtain ⟨x, hx⟩ : ∃ x, l.getD k 0 = x := ⟨_, rfl⟩
  rw [hx] at hc
  have HX := hid hx
  clear hx
  go_enter Try.func15, Try.ntmps15
  go_wp2_with fail
  go_region
  go_wp2_with fail
  refine bodyPost_ret (v := .tuple #[.agg #[.int .i64 4, .int .i64 x, .int .i64 0, .int .i64 0, .int .i64 who], .bool true]) (by simp [results, Try.results15, go_sem]) rfl ⟨by rw [HX.out], ?_⟩
  exact (q_alloc (alloc_below w _) _).drew
set_option maxRecDepth 100000 in
set_option maxHeartbeats 1000000 in
theorem rnext_back (who : Int) (k : Nat) (t : Int) (bb : Bool) (ao : Option Addr) (n cap : Nat) (l : List Int) (w : World) (H : Hid (Has w ao n cap l)) (hk : k < n) (hn : n ≤ 5000) :
    Calls Try.prog 15 #[.agg #[.int .i64 who, .slice ao n cap, .int .i64 3, .int .i64 ((k : Int) + 1), .int .i64 t, .bool bb]] w fun e w' => e = .returned (.tuple #[.agg #[.int .i64 5, .int .i64 (l.getD k 0), .int .i64 0, .int .i64 0, .int .i64 who], .bool true]) ∧ Below w.heap.size w w' := by
  have i1 : (0 : Int) ≤ (k : Int) := by omega
  have i2 : (k : Int) < (n : Int) := by omega
  have i3 : (1 : Int) ≤ (k : Int) + 1 := by omega
  have i4 : (k : Int) + 1 ≤ (n : Int) := by omega
  obtain ⟨a, e, hc⟩ := ((H.out.below (alloc_below w (.cells #[.int .i64 who, .slice ao n cap, .int .i64 3, .int .i64 ((k : Int) + 1), .int .i64 t, .bool bb] 25))).below (alloc_below _ (.cells #[.int .i64 0, .int .i64 0, .int .i64 0, .int .i64 0, .int .i64 0] 35))).cell k hk
  subst e
  obtain ⟨x, hx⟩ : ∃ x, l.getD k 0 = x := ⟨_, rfl⟩
  rw [hx] at hc
  have HX := hid hx
  clear hx
  go_enter Try.func15, Try.ntmps15
  go_wp2_with fail
  go_region
  go_wp2_with fail
  refine bodyPost_ret (v := .tuple #[.agg #[.int .i64 5, .int .i64 x, .int .i64 0, .int .i64 0, .int .i64 who], .bool true]) (by simp [results, Try.results15, go_sem]) rfl ⟨by rw [HX.out], ?_⟩
  exact (q_alloc (alloc_below w _) _).drew
set_option maxRecDepth 100000 in
set_option maxHeartbeats 1000000 in
theorem rnext_free (who : Int) (k : Nat) (t : Int) (bb : Bool) (ao : Option Addr) (n cap : Nat) (l : List Int) (w : World) (H : Hid (Has w ao n cap l)) (hk : k < n) (hn : n ≤ 5000) :
    Calls Try.prog 15 #[.agg #[.int .i64 who, .slice ao n cap, .int .i64 4, .int .i64 ((k : Int) + 1), .int .i64 t, .bool bb]] w fun e w' => e = .returned (.tuple #[.agg #[.int .i64 5, .int .i64 (l.getD k 0), .int .i64 0, .int .i64 0, .int .i64 who], .bool true]) ∧ Below w.heap.size w w' := by
  have i1 : (0 : Int) ≤ (k : Int) := by omega
  have i2 : (k : Int) < (n : Int) := by omega
  have i3 : (1 : Int) ≤ (k : Int) + 1 := by omega
  have i4 : (k : Int) + 1 ≤ (n : Int) := by omega
  obtain ⟨a, e, hc⟩ := ((H.out.below (alloc_below w (.cells #[.int .i64 who, .slice ao n cap, .int .i64 4, .int .i64 ((k : Int) + 1), .int .i64 t, .bool bb] 25))).below (alloc_below _ (.cells #[.int .i64 0, .int .i64 0, .int .i64 0, .int .i64 0, .int .i64 0] 35))).cell k hk
  subst e
  obtain ⟨x, hx⟩ : ∃ x, l.getD k 0 = x := ⟨_, rfl⟩
  rw [hx] at hc
  have HX := hid hx
  clear hx
  go_enter Try.func15, Try.ntmps15
  go_wp2_with fail
  go_region
  go_wp2_with fail
  refine bodyPost_ret (v := .tuple #[.agg #[.int .i64 5, .int .i64 x, .int .i64 0, .int .i64 0, .int .i64 who], .bool true]) (by simp [results, Try.results15, go_sem]) rfl ⟨by rw [HX.out], ?_⟩
  exact (q_alloc (alloc_below w _) _).drew
set_option maxRecDepth 100000 in
set_option maxHeartbeats 1000000 in
theorem rnext_low1 (who a t : Int) (bb : Bool) (ao : Option Addr) (n cap : Nat) (w : World) (h : a < 0) :
    Calls Try.prog 15 #[.agg #[.int .i64 who, .slice ao n cap, .int .i64 1, .int .i64 a, .int .i64 t, .bool bb]] w fun e w' => e = .returned (.tuple #[.agg #[.int .i64 0, .int .i64 0, .int .i64 0, .int .i64 0, .int .i64 0], .bool false]) ∧ Below w.heap.size w w' := by
  go_enter Try.func15, Try.ntmps15
  go_wp2_with fail
  refine bodyPost_ret (v := .tuple #[.agg #[.int .i64 0, .int .i64 0, .int .i64 0, .int .i64 0, .int .i64 0], .bool false]) (by simp [results, Try.results15, go_sem]) rfl ⟨rfl, ?_⟩
  exact q_alloc (alloc_below w _) _
set_option maxRecDepth 100000 in
set_option maxHeartbeats 1000000 in
theorem rnext_high1 (who a t : Int) (bb : Bool) (ao : Option Addr) (n cap : Nat) (w : World) (h0 : 0 ≤ a) (h : (n : Int) ≤ a) :
    Calls Try.prog 15 #[.agg #[.int .i64 who, .slice ao n cap, .int .i64 1, .int .i64 a, .int .i64 t, .bool bb]] w fun e w' => e = .returned (.tuple #[.agg #[.int .i64 0, .int .i64 0, .int .i64 0, .int .i64 0, .int .i64 0], .bool false]) ∧ Below w.heap.size w w' := by
  go_enter Try.func15, Try.ntmps15
  go_wp2_with fail
  refine bodyPost_ret (v := .tuple #[.agg #[.int .i64 0, .int .i64 0, .int .i64 0, .int .i64 0, .int .i64 0], .bool false]) (by simp [results, Try.results15, go_sem]) rfl ⟨rfl, ?_⟩
  exact q_alloc (alloc_below w _) _
set_option maxRecDepth 100000 in
set_option maxHeartbeats 1000000 in
theorem rnext_low3 (who a t : Int) (bb : Bool) (ao : Option Addr) (n cap : Nat) (w : World) (h : a < 1) :
    Calls Try.prog 15 #[.agg #[.int .i64 who, .slice ao n cap, .int .i64 3, .int .i64 a, .int .i64 t, .bool bb]] w fun e w' => e = .returned (.tuple #[.agg #[.int .i64 0, .int .i64 0, .int .i64 0, .int .i64 0, .int .i64 0], .bool false]) ∧ Below w.heap.size w w' := by
  go_enter Try.func15, Try.ntmps15
  go_wp2_with fail
  refine bodyPost_ret (v := .tuple #[.agg #[.int .i64 0, .int .i64 0, .int .i64 0, .int .i64 0, .int .i64 0], .bool false]) (by simp [results, Try.results15, go_sem]) rfl ⟨rfl, ?_⟩
  exact q_alloc (alloc_below w _) _
set_option maxRecDepth 100000 in
set_option maxHeartbeats 1000000 in
theorem rnext_high3 (who a t : Int) (bb : Bool) (ao : Option Addr) (n cap : Nat) (w : World) (h0 : 1 ≤ a) (h : (n : Int) < a) :
    Calls Try.prog 15 #[.agg #[.int .i64 who, .slice ao n cap, .int .i64 3, .int .i64 a, .int .i64 t, .bool bb]] w fun e w' => e = .returned (.tuple #[.agg #[.int .i64 0, .int .i64 0, .int .i64 0, .int .i64 0, .int .i64 0], .bool false]) ∧ Below w.heap.size w w' := by
  go_enter Try.func15, Try.ntmps15
  go_wp2_with fail
  refine bodyPost_ret (v := .tuple #[.agg #[.int .i64 0, .int .i64 0, .int .i64 0, .int .i64 0, .int .i64 0], .bool false]) (by simp [results, Try.results15, go_sem]) rfl ⟨rfl, ?_⟩
  exact q_alloc (alloc_below w _) _
set_option maxRecDepth 100000 in
set_option maxHeartbeats 1000000 in
theorem rnext_low4 (who a t : Int) (bb : Bool) (ao : Option Addr) (n cap : Nat) (w : World) (h : a < 1) :
    Calls Try.prog 15 #[.agg #[.int .i64 who, .slice ao n cap, .int .i64 4, .int .i64 a, .int .i64 t, .bool bb]] w fun e w' => e = .returned (.tuple #[.agg #[.int .i64 0, .int .i64 0, .int .i64 0, .int .i64 0, .int .i64 0], .bool false]) ∧ Below w.heap.size w w' := by
  go_enter Try.func15, Try.ntmps15
  go_wp2_with fail
  refine bodyPost_ret (v := .tuple #[.agg #[.int .i64 0, .int .i64 0, .int .i64 0, .int .i64 0, .int .i64 0], .bool false]) (by simp [results, Try.results15, go_sem]) rfl ⟨rfl, ?_⟩
  exact q_alloc (alloc_below w _) _
set_option maxRecDepth 100000 in
set_option maxHeartbeats 1000000 in
theorem rnext_high4 (who a t : Int) (bb : Bool) (ao : Option Addr) (n cap : Nat) (w : World) (h0 : 1 ≤ a) (h : (n : Int) < a) :
    Calls Try.prog 15 #[.agg #[.int .i64 who, .slice ao n cap, .int .i64 4, .int .i64 a, .int .i64 t, .bool bb]] w fun e w' => e = .returned (.tuple #[.agg #[.int .i64 0, .int .i64 0, .int .i64 0, .int .i64 0, .int .i64 0], .bool false]) ∧ Below w.heap.size w w' := by
  go_enter Try.func15, Try.ntmps15
  go_wp2_with fail
  refine bodyPost_ret (v := .tuple #[.agg #[.int .i64 0, .int .i64 0, .int .i64 0, .int .i64 0, .int .i64 0], .bool false]) (by simp [results, Try.results15, go_sem]) rfl ⟨rfl, ?_⟩
  exact q_alloc (alloc_below w _) _
set_option maxRecDepth 100000 in
set_option maxHeartbeats 1000000 in
theorem rnext_none (who p a t : Int) (bb : Bool) (ao : Option Addr) (n cap : Nat) (w : World) (h1 : (p == 1) = false) (h3 : (p == 3) = false) (h4 : (p == 4) = false) :
    Calls Try.prog 15 #[.agg #[.int .i64 who, .slice ao n cap, .int .i64 p, .int .i64 a, .int .i64 t, .bool bb]] w fun e w' => e = .returned (.tuple #[.agg #[.int .i64 0, .int .i64 0, .int .i64 0, .int .i64 0, .int .i64 0], .bool false]) ∧ Below w.heap.size w w' := by
  go_enter Try.func15, Try.ntmps15
  go_wp2_with fail
  refine bodyPost_ret (v := .tuple #[.agg #[.int .i64 0, .int .i64 0, .int .i64 0, .int .i64 0, .int .i64 0], .bool false]) (by simp [results, Try.results15, go_sem]) rfl ⟨rfl, ?_⟩
  exact q_alloc (alloc_below w _) _
/-- THE SAME (the document's). -/
theorem rnext_any (g : G) (ao : Option Addr) (n cap : Nat) (w : World) (H : Has w ao n cap g.cs) (hn : n ≤ 5000) :
    Calls Try.prog 15 #[(.agg #[.int .i64 g.w, .slice ao n cap, .int .i64 g.p, .int .i64 g.a, .int .i64 g.t, .bool g.b])] w fun e w' => e = .returned (.tuple #[(.agg #[.int .i64 (nxO g).k, .int .i64 (nxO g).c, .int .i64 (nxO g).a, .int .i64 (nxO g).v, .int .i64 (nxO g).w]), .bool (hasN g)]) ∧ Below w.heap.size w w' := by
  obtain ⟨who, l, p, a, t, bb⟩ := g
  have hl : n = l.length := H.len
  have hno : hasN ⟨who, l, p, a, t, bb⟩ = false → nxO ⟨who, l, p, a, t, bb⟩ = O.zero := fun h => by simp [nxO, h]
  simp only at H ⊢
  rcases phases p with rfl | h34
  · by_cases h0 : a < 0
    · have h : hasN ⟨who, l, 1, a, t, bb⟩ = false := has_not.2 (by simp only; omega)
      rw [hno h, h]
      exact rnext_low1 who a t bb ao n cap w h0
    · by_cases h1 : (n : Int) ≤ a
      · have h : hasN ⟨who, l, 1, a, t, bb⟩ = false := has_not.2 (by simp only; omega)
        rw [hno h, h]
        exact rnext_high1 who a t bb ao n cap w (by omega) h1
      · obtain ⟨k, rfl⟩ : ∃ k : Nat, a = k := ⟨a.toNat, by omega⟩
        have h : hasN ⟨who, l, 1, (k : Int), t, bb⟩ = true := has_iff.2 (.inl ⟨rfl, by simp only; omega, by simp only; omega⟩)
        have e : nxO ⟨who, l, 1, (k : Int), t, bb⟩ = ⟨4, l.getD k 0, 0, 0, who⟩ := by unfold nxO; rw [if_pos h]; rfl
        rw [e, h]
        exact rnext_try who k t bb ao n cap l w H (by omega)
  · rcases h34 with rfl | rfl | ⟨q1, q3, q4⟩
    · by_cases h0 : a - 1 < 0
      · have h : hasN ⟨who, l, 3, a, t, bb⟩ = false := has_not.2 (by simp only; omega)
        rw [hno h, h]
        exact rnext_low3 who a t bb ao n cap w (by omega)
      · by_cases h1 : (n : Int) ≤ a - 1
        · have h : hasN ⟨who, l, 3, a, t, bb⟩ = false := has_not.2 (by simp only; omega)
          rw [hno h, h]
          exact rnext_high3 who a t bb ao n cap w (by omega) (by omega)
        · obtain ⟨k, rfl⟩ : ∃ k : Nat, a = (k : Int) + 1 := ⟨(a - 1).toNat, by omega⟩
          have h : hasN ⟨who, l, 3, (k : Int) + 1, t, bb⟩ = true := has_iff.2 (.inr ⟨.inl rfl, by simp only; omega, by simp only; omega⟩)
          have e : nxO ⟨who, l, 3, (k : Int) + 1, t, bb⟩ = ⟨5, l.getD k 0, 0, 0, who⟩ := by
            unfold nxO
            rw [if_pos h, if_neg (fun e => absurd e (by simp))]
            simp
          rw [e, h]
          exact rnext_back who k t bb ao n cap l w H (by omega) hn
    · by_cases h0 : a - 1 < 0
      · have h : hasN ⟨who, l, 4, a, t, bb⟩ = false := has_not.2 (by simp only; omega)
        rw [hno h, h]
        exact rnext_low4 who a t bb ao n cap w (by omega)
      · by_cases h1 : (n : Int) ≤ a - 1
        · have h : hasN ⟨who, l, 4, a, t, bb⟩ = false := has_not.2 (by simp only; omega)
          rw [hno h, h]
          exact rnext_high4 who a t bb ao n cap w (by omega) (by omega)
        · obtain ⟨k, rfl⟩ : ∃ k : Nat, a = (k : Int) + 1 := ⟨(a - 1).toNat, by omega⟩
          have h : hasN ⟨who, l, 4, (k : Int) + 1, t, bb⟩ = true := has_iff.2 (.inr ⟨.inr rfl, by simp only; omega, by simp only; omega⟩)
          have e : nxO ⟨who, l, 4, (k : Int) + 1, t, bb⟩ = ⟨5, l.getD k 0, 0, 0, who⟩ := by
            unfold nxO
            rw [if_pos h, if_neg (fun e => absurd e (by simp))]
            simp
          rw [e, h]
          exact rnext_free who k t bb ao n cap l w H (by omega) hn
    · have h : hasN ⟨who, l, p, a, t, bb⟩ = false := has_not.2 (by simp at q1 q3 q4 ⊢; omega)
      rw [hno h, h]
      exact rnext_none who p a t bb ao n cap w q1 q3 q4
end Go.Proofs.Ytaihabkacjbfjaa.Gr
