/- What slices.Backward tells; what the program's Parent does. -/
import Derived.Test.YtdaakigofpehjabTrW6
import Derived.Test.YtdaakigofpehjabTrRPar
namespace Go.Proofs.Ytdaakigofpehjab.Tr
open Go.RowKit Go.Shelf
attribute [local go_sem] Oper.semAt_some

/-- What Backward tells of u in q rounds, if u has m. -/
def bw (u : List Br) (m q : Nat) : List (Nat × Br) := (List.range q).map fun r => (m - 1 - r, u.getD (m - 1 - r) zB)
theorem bw_len (u : List Br) (m q : Nat) : (bw u m q).length = q := by simp [bw]
theorem bw_succ (u : List Br) (m q : Nat) : bw u m (q + 1) = bw u m q ++ [(m - 1 - q, u.getD (m - 1 - q) zB)] := by simp [bw, List.range_succ]
theorem bw_pre (u : List Br) (m : Nat) {q r : Nat} (h : q ≤ r) : bw u m q <+: bw u m r := by
  obtain ⟨d, rfl⟩ : ∃ d, r = q + d := ⟨r - q, by omega⟩
  clear h
  induction d with
  | zero => exact List.prefix_refl _
  | succ d ih => rw [← Nat.add_assoc, bw_succ]; exact ih.trans (List.prefix_append _ _)
theorem bw_mem {u : List Br} {m j : Nat} (h : j < m) : (j, u.getD j zB) ∈ bw u m m := by
  refine List.mem_map.2 ⟨m - 1 - j, by simp; omega, ?_⟩
  rw [show m - 1 - (m - 1 - j) = j by omega]
theorem bw_at {u : List Br} {m : Nat} {q : List (Nat × Br)} {x : Nat × Br} (h : q ++ [x] <+: bw u m m) : q.length < m ∧ x = (m - 1 - q.length, u.getD (m - 1 - q.length) zB) ∧ ∀ j, m - 1 - q.length < j → j < m → (j, u.getD j zB) ∈ q := by
  have hl : (q ++ [x]).length ≤ m := by have := h.length_le; rwa [bw_len] at this
  have hq : q.length < m := by simp at hl; omega
  have e : q ++ [x] = bw u m (q.length + 1) := by
    have h1 := List.prefix_iff_eq_take.1 h
    have h2 := List.prefix_iff_eq_take.1 (bw_pre u m (q := q.length + 1) (r := m) (by omega))
    rw [bw_len] at h2
    rw [h1, h2]
    simp
  rw [bw_succ] at e
  obtain ⟨e1, e2⟩ := List.append_inj e (by rw [bw_len])
  refine ⟨hq, by simpa using e2, fun j h1 h2 => ?_⟩
  rw [e1]
  refine List.mem_map.2 ⟨m - 1 - j, by simp; omega, ?_⟩
  rw [show m - 1 - (m - 1 - j) = j by omega]
set_option maxHeartbeats 400000 in
theorem backward_any (ao : Option Addr) (n cap : Nat) (w : World) :
    Calls Try.prog 23 #[.slice ao n cap] w fun e w' => e = .returned (.func (.func 36) #[] #[.pointer (some ⟨w.heap.size, 0, none⟩)]) ∧ w' = w.alloc (.cells #[.slice ao n cap] 26) := by
  go_enter Try.func23, Try.ntmps23
  go_wp2
  go_ret
  exact ⟨rfl, rfl⟩
set_option maxRecDepth 100000 in
set_option maxHeartbeats 2000000 in
theorem backward1_in (n : Nat) (hn : 1 ≤ n) (l Bt : Nat) (ao : Option Addr) (m cap : Nat) (u : List Br) (w0 : World) (hm : m ≤ 1000) (HH : Hid (HasB w0 ao m cap u)) (J Jx : List (Nat × Br) → World → Prop)
    (hY : ∀ pre (x : Nat × Br) W, J pre W → pre.length < 1000 → YieldAt Fence.wide (n - 1) Try.prog l #[.int .i64 x.1, (.agg #[.int .i64 x.2.1.1, .int .i64 x.2.1.2, .int .i64 x.2.2.1, .bool x.2.2.2])] W fun e W' =>
      (e = .returned (.bool true) ∧ J (pre ++ [x]) W' ∧ KB w0.heap.size Bt W W') ∨ (e = .returned (.bool false) ∧ Jx (pre ++ [x]) W'))
    (W : World) (HB : Hid (Below w0.heap.size w0 W)) (HT : Hid (W.cell? ⟨Bt, 0, none⟩ = some (.slice ao m cap))) (H0 : Hid (J [] W)) :
    CallsIn Fence.wide n Try.prog 36 #[.func (.yield l) #[] #[], .pointer (some ⟨Bt, 0, none⟩)] W fun e W' => (∃ v, e = .returned v) ∧
      ((∃ ys, ys = bw u m m ∧ J ys W') ∨ (∃ pre, pre <+: bw u m m ∧ Jx pre W')) := by
  refine callsIn_of_wp Try.func36 rfl trivial ?_ rfl
  simp only [Try.ntmps36, List.size_toArray, List.length_cons, List.length_nil, Nat.reduceAdd, Nat.reduceSub, Array.replicate_succ, Array.replicate_zero, List.push_toArray, List.append_toArray, List.nil_append, List.cons_append]
  have c0 := HT.out
  gi_wp2
  clear c0
  gi_loopw [3] (fun x wr => ∃ q r : Nat, Hid (q + r = m) ∧ x = .int .i64 ((r : Int) - 1) ∧ Hid (J (bw u m q) wr) ∧ Hid (wr.cell? ⟨Bt, 0, none⟩ = some (.slice ao m cap)) ∧ Hid (Below w0.heap.size w0 wr)) (fun x _ => (intOf x + 1).toNat)
  case atStart => exact ⟨0, m, by simp [Hid], by go_num, H0, HT, HB⟩
  case round =>
    obtain ⟨q, r, HP, rfl, HJs, HTs, HBs⟩ := hrel
    have c0 := HTs.out
    rcases Nat.eq_zero_or_pos r with hz | hz
    · subst hz
      have HQ : Hid (bw u m q = bw u m m) := by have := HP.out; unfold Hid; rw [show q = m by omega]
      have hg : ¬ ((0 : Nat) : Int) - 1 ≥ 0 := by omega
      gi_wp2
      go_end0
      exact ⟨⟨_, rfl⟩, .inl (by have h := HJs.out; rwa [HQ.out] at h)⟩
    · obtain ⟨p, rfl⟩ : ∃ p, r = p + 1 := ⟨r - 1, by omega⟩
      have hpe : ((p + 1 : Nat) : Int) - 1 = (p : Int) := by omega
      rw [hpe]
      clear hpe hz
      have hpm : p < m := by have := HP.out; omega
      have hp0 : (0 : Int) ≤ (p : Int) := by omega
      have hp1 : (p : Int) < (m : Int) := by omega
      have hp2 : (p : Int) ≤ 1000 := by omega
      obtain ⟨a, rfl, ca⟩ := (HH.out.below HBs.out).at p hpm
      obtain ⟨z, hz⟩ : ∃ z, u.getD p zB = z := ⟨_, rfl⟩
      have HZ := hid hz
      rw [hz] at ca
      have HTk : Hid (bw u m (q + 1) = bw u m q ++ [(p, z)]) := by
        unfold Hid
        rw [bw_succ, show m - 1 - q = p by have := HP.out; omega, HZ.out]
      obtain ⟨f0, f1, f2, f3⟩ := ca
      obtain ⟨fn, tmps, assign, body, hy, hR⟩ := hY (bw u m q) (p, z) wr HJs.out (by rw [bw_len]; have := HP.out; omega)
      dsimp only at hy
      clear hz
      gi_wp2
      refine hR.mono ?_
      rintro e W3 (⟨rfl, hJ3, hk3⟩ | ⟨rfl, hJx3⟩)
      · have HB3 := hid (HBs.out.trans hk3.1)
        have HT3 := hid (hk3.2 _ HTs.out)
        have HJ3 := hid hJ3
        clear hJ3 hk3 c0 f0 f1 f2 f3
        gi_wp2
        go_roundw
        case rel => exact ⟨q + 1, p, by have := HP.out; unfold Hid; omega, by go_num, by rw [HTk.out]; exact HJ3, HT3, HB3⟩
        case measure => simp [intOf]
      · gi_wp2
        refine bodyPost_ret (results_none rfl _ _ _) rfl ?_
        exact ⟨⟨_, rfl⟩, .inr ⟨_, by rw [← HTk.out]; exact bw_pre u m (by have := HP.out; omega), hJx3⟩⟩
theorem backward_stops (n : Nat) (hn : 1 ≤ n) (Bt : Nat) (ao : Option Addr) (m cap : Nat) (u : List Br) (w0 Wb : World) (hm : m ≤ 1000) (hH : HasB w0 ao m cap u) (hB : Below w0.heap.size w0 Wb) (hT : Wb.cell? ⟨Bt, 0, none⟩ = some (.slice ao m cap)) :
    SeqStopsK Fence.wide n Try.prog 36 #[.pointer (some ⟨Bt, 0, none⟩)] (fun x : Nat × Br => #[.int .i64 x.1, (.agg #[.int .i64 x.2.1.1, .int .i64 x.2.1.2, .int .i64 x.2.2.1, .bool x.2.2.2])]) (KB w0.heap.size Bt) (fun ys => ys = bw u m m) (fun pre => pre <+: bw u m m) 1000 Wb := fun l J Jx W hW _ _ hY h0 =>
  backward1_in n hn l Bt ao m cap u w0 hm hH J Jx hY W (q_trans hB hW) ((hW.cell (World.block_lt_of_cell? Wb _ hT)).trans hT) h0
end Go.Proofs.Ytdaakigofpehjab.Tr
