/- What slices.Delete does to a list of one's own: one taken out. -/
import Derived.Test.YtcldnacpddebcaaGhOg
import Derived.Test.YtcldnacpddebcaaGhApp
import Derived.Deep.RegionLaw
import Derived.Laws.IdiomCopy
namespace Go.Proofs.Ytcldnacpddebcaa.Gh
open Go.RowKit
open Go.Proofs.Ytcldnacpddebcaa.Tr

def layL (cs : List Value) : Nat → List Value → List Value
  | _, [] => cs
  | o, v :: r => layL (cs.set o v) (o + 1) r
theorem layL_get (vs : List Value) : ∀ (cs : List Value) (o j : Nat), o + vs.length ≤ cs.length → (layL cs o vs)[j]? = if o ≤ j ∧ j < o + vs.length then vs[j - o]? else cs[j]? := by
  induction vs with
  | nil => intro cs o j _; rw [layL, if_neg (by simp)]
  | cons v r ih =>
    intro cs o j h
    simp only [List.length_cons] at h
    rw [layL, ih (cs.set o v) (o + 1) j (by simp; omega), List.length_cons]
    by_cases e : j = o
    · subst e
      rw [if_neg (by omega), if_pos (by omega), List.getElem?_set_self (by omega)]
      simp
    · by_cases c : o + 1 ≤ j ∧ j < o + 1 + r.length
      · rw [if_pos c, if_pos (by omega), show j - o = (j - (o + 1)) + 1 by omega]
        simp
      · rw [if_neg c, if_neg (by omega), List.getElem?_set_ne (by omega)]
theorem layL_len (vs : List Value) : ∀ (cs : List Value) (o : Nat), (layL cs o vs).length = cs.length := by
  induction vs with
  | nil => intro cs o; rfl
  | cons v r ih => intro cs o; rw [layL, ih]; simp
theorem own_setCells {B n cap g sz : Nat} {E : TypeId} (vs : List Value) : ∀ (o : Nat) (w : World) (cs : List Value), w.ownsRow B E sz (.slice (some ⟨g, 0, none⟩) n cap) n cs → (w.setCells g o vs).ownsRow B E sz (.slice (some ⟨g, 0, none⟩) n cap) n (layL cs o vs) := by
  induction vs with
  | nil => exact fun _ _ _ h => h
  | cons v r ih => exact fun o w cs h => ih (o + 1) _ _ (own_setS v h)
theorem kept_setCells {S : Nat → Prop} {a : World} (g : Nat) (hg : S g) (vs : List Value) : ∀ (o : Nat) (b : World), Kept S a b → Kept S a (b.setCells g o vs) := by
  induction vs with
  | nil => exact fun _ _ h => h
  | cons v r ih => exact fun o b h => ih (o + 1) _ (h.setCell _ _ (fun _ => hg))
theorem own_shrink {w : World} {B n m cap g sz : Nat} {E : TypeId} {cs : List Value} (h : w.ownsRow B E sz (.slice (some ⟨g, 0, none⟩) n cap) n cs) (hm : m ≤ n) : w.ownsRow B E sz (.slice (some ⟨g, 0, none⟩) m cap) m (cs.take (m * sz)) := by
  have hmul : m * sz ≤ n * sz := Nat.mul_le_mul_right sz hm
  refine ⟨by have := h.1; simp; omega, ?_⟩
  rcases h.2 with ⟨e, _⟩ | ⟨g', cap', cur, e, hb, hg, h1, h2, h3, h4⟩
  · cases e
  · cases e
    refine .inr ⟨g, cap, cur, rfl, hb, hg, by omega, h2, h3, ?_⟩
    rw [← h4, List.take_take, Nat.min_eq_left hmul]
theorem own_cells {w : World} {B n cap g sz j : Nat} {E : TypeId} {cs : List Value} (h : w.ownsRow B E sz (.slice (some ⟨g, 0, none⟩) n cap) n cs) (hj : j < n * sz) : (w.cell? ⟨g, j, none⟩).isSome = true := by
  have hl := h.1
  obtain ⟨a, e, hc⟩ := (own_row h).1.cell j (cs[j]'(by omega)) (by simp)
  cases e
  have ea : (Addr.add ⟨g, 0, none⟩ j) = ⟨g, j, none⟩ := by unfold Addr.add; split <;> simp_all
  rw [ea] at hc
  rw [hc]
  rfl
/-- append where there is room, the new length and the new world named. -/
theorem step_room {P : Program} {ops : Array Oper} {o : Oper} {a : Act} {w : World} {K : Act → World → Prop} {Q : Exit → Act → World → Prop} {E : Prop}
    (hg : o.guard = none) (s x : Operand) (t : TypeId) (hop : o.op = Op.call { callee := Callee.builtin Builtin.append, args := #[s, x], argTypes := #[t, t] })
    (e : TypeId) (i : TypeInfo) (size : Nat) (h1 : P.underlying t = some (.slice e)) (h2 : P.info? e = some i) (h4 : i.size = size)
    (b n cap : Nat) (hs : a.eval s = .slice (some ⟨b, 0, none⟩) n cap)
    (ad : Addr) (m c : Nat) (news : List Value) (hx : a.eval x = .slice (some ad) m c) (hn : news.length = m * size) (hc : ∀ j u, news[j]? = some u → w.cell? (ad.add j) = some u) (h1c : ∀ u ∈ news, u.oneCell' = true)
    (hroom : n + m ≤ cap) (hspare : ∀ j, j < news.length → (w.cell? ⟨b, n * size + j, none⟩).isSome = true ∧ w.frozen? ⟨b, n * size + j, none⟩ = false)
    (N : Nat) (hN : n + m = N) (W : World) (hW : w.setCells b (n * size) news = W)
    (hK : K (a.put o.dst (.slice (some ⟨b, 0, none⟩) N cap)) W) :
    if Region.wanted o (yielded ops a.tmps) = true then Oper.wp P o a w K Q else E := by
  subst hN hW
  refine step_append_room hg s x t hop e i size h1 h2 h4 b 0 n cap hs ad m c news hx hn hc h1c hroom (fun j hj => by rw [Nat.zero_add]; exact hspare j hj) ?_
  rw [Nat.zero_add]
  exact hK
/-- One taken out: what the row has then. -/
theorem del_row {cs news zs : List Value} {i m n sz : Nat} (hl : cs.length = n * sz) (hi : i < n) (hm : m + 1 = n) (hw : news = cs.drop ((i + 1) * sz)) (hz : zs.length = sz) : (layL (layL cs (i * sz) news) (m * sz) zs).take (m * sz) = cs.take (i * sz) ++ news := by
  subst hw hm
  have e1 : (m + 1) * sz = m * sz + sz := Nat.succ_mul _ _
  have e2 : (i + 1) * sz = i * sz + sz := Nat.succ_mul _ _
  have e3 : i * sz ≤ m * sz := Nat.mul_le_mul_right sz (by omega)
  have ln : (cs.drop ((i + 1) * sz)).length = m * sz - i * sz := by rw [List.length_drop]; omega
  have l1 : i * sz + (cs.drop ((i + 1) * sz)).length ≤ cs.length := by omega
  apply List.ext_getElem?
  intro j
  rw [List.getElem?_take]
  by_cases hj : j < m * sz
  · rw [if_pos hj, layL_get zs _ _ _ (by rw [layL_len]; omega), if_neg (by omega), layL_get _ _ _ _ l1]
    by_cases c : i * sz ≤ j
    · rw [if_pos ⟨c, by omega⟩, List.getElem?_append_right (by rw [List.length_take]; omega)]
      congr 1
      rw [List.length_take]
      omega
    · rw [if_neg (by omega), List.getElem?_append_left (by rw [List.length_take]; omega), List.getElem?_take, if_pos (by omega)]
  · rw [if_neg hj, List.getElem?_eq_none]
    rw [List.length_append, List.length_take, ln]
    omega
/-- clear of one. -/
theorem clearK (w : World) (ty : TypeId) (b o c : Nat) (h : ∀ j, j < 2 → (w.cell? ⟨b, o + j, none⟩).isSome = true ∧ w.frozen? ⟨b, o + j, none⟩ = false) :
    (Builtin.clear_ #[22] ty #[.slice (some ⟨b, o, none⟩) 1 c]).run Try.prog w = .ok (.tuple #[]) (w.setCells b o [.int .i64 0, .int .i64 0]) := by
  have hst := run_storeCells_cells (P := Try.prog) b o [.int .i64 0, .int .i64 0] 0 w (fun j hj => (h j hj).1) (fun j hj => (h j hj).2) (by intro v hv; simp at hv; subst hv; rfl)
  simp only [Nat.add_zero] at hst
  have hz : (Builtin.zeroCells #[.int .i64 0, .int .i64 0] 1).toList = [.int .i64 0, .int .i64 0] := by kernel_rfl
  simp [Builtin.clear_, run_underlying Try.underlying22, Value.cells, hz, hst]
theorem midK (g i j n cap : Nat) (hij : i ≤ j) (hj : j ≤ n) (hc : n ≤ cap) (W : World) :
    (Instr.slice 22 (.slice (some ⟨g, 0, none⟩) n cap) (some (.int .i64 i)) (some (.int .i64 j)) (some (.int .i64 n))).run Try.prog W = .ok (.slice (if n = i then some ⟨g, 0, none⟩ else some (Addr.add ⟨g, 0, none⟩ (i * 2))) (j - i) (n - i)) W := by
  have hb1 := fun code => run_sliceBound (P := Try.prog) (w := W) .i64 (n : Int) cap code (by omega) (by omega)
  have hb2 := fun code => run_sliceBound (P := Try.prog) (w := W) .i64 (j : Int) n code (by omega) (by omega)
  have hb3 := fun code => run_sliceBound (P := Try.prog) (w := W) .i64 (i : Int) j code (by omega) (by omega)
  simp [Instr.slice, Instr.sliceBounds, run_underlying Try.underlying22, hb1, hb2, hb3, Try.sizeOf27]
theorem endK (g m n cap : Nat) (hm : m < n) (hc : n ≤ cap) (W : World) :
    (Instr.slice 22 (.slice (some ⟨g, 0, none⟩) m cap) (some (.int .i64 m)) (some (.int .i64 n)) none).run Try.prog W = .ok (.slice (some ⟨g, m * 2, none⟩) (n - m) (cap - m)) W := by
  have hb2 := fun code => run_sliceBound (P := Try.prog) (w := W) .i64 (n : Int) cap code (by omega) (by omega)
  have hb3 := fun code => run_sliceBound (P := Try.prog) (w := W) .i64 (m : Int) n code (by omega) (by omega)
  have hne : ¬ cap = m := by omega
  have ha : (Addr.add ⟨g, 0, none⟩ (m * 2)) = ⟨g, m * 2, none⟩ := by unfold Addr.add; split <;> simp_all
  simp [Instr.slice, Instr.sliceBounds, run_underlying Try.underlying22, hb2, hb3, Try.sizeOf27, hne, ha]
set_option maxRecDepth 100000 in
set_option maxHeartbeats 2000000 in
/-- slices.Delete OF ONE. -/
theorem delK_any (B gb n cap i j m : Nat) (l : List P) (w : World) (hi : i < n) (hj : j = i + 1) (hm : m + 1 = n) (hM : MineP 27 w B (some ⟨gb, 0, none⟩) n cap l) :
    Calls Try.prog 61 #[.slice (some ⟨gb, 0, none⟩) n cap, .int .i64 (i : Int), .int .i64 (j : Int)] w fun e w' => e = .returned (.slice (some ⟨gb, 0, none⟩) m cap) ∧ MineP 27 w' B (some ⟨gb, 0, none⟩) m cap (l.eraseIdx i) ∧ Kept (fun k => k = gb) w w' := by
  obtain ⟨i0, hi0, hz0, hz1, hz2⟩ := info_of infoK
  have hcap : n ≤ cap := (own_row hM.2).2.1
  have hln := hM.1
  have hd := hasP_drop hM.has j (by omega)
  obtain ⟨A, eA⟩ : ∃ A : Addr, (if cap = j then (some ⟨gb, 0, none⟩ : Option Addr) else (some (⟨gb, 0, none⟩ : Addr)).map (·.add (j * 2))) = some A := by
    split
    · exact ⟨_, rfl⟩
    · exact ⟨_, rfl⟩
  rw [eA] at hd
  have HD : Hid (HasP w.drew (some A) (n - j) (cap - j) (l.drop j)) := hd.below (Below.refl _ _).drew
  have e0 := midK gb i j n cap (by omega) (by omega) hcap
  have e1 : ∀ W, (Instr.slice 22 (.slice (some ⟨gb, 0, none⟩) n cap) none (some (.int .i64 (i : Int))) none).run Try.prog W = .ok (.slice (some ⟨gb, 0, none⟩) i cap) W := fun W => run_toK _ i n cap (by omega) W
  have e2 : ∀ W, (Instr.slice 22 (.slice (some ⟨gb, 0, none⟩) n cap) (some (.int .i64 (j : Int))) none none).run Try.prog W = .ok (.slice (some A) (n - j) (cap - j)) W := fun W => by
    have h := run_fromK (some ⟨gb, 0, none⟩) j n cap (by omega) W
    rwa [eA] at h
  have e3 : ∀ W, (Instr.slice 22 (.slice (some ⟨gb, 0, none⟩) m cap) (some (.int .i64 (m : Int))) (some (.int .i64 (n : Int))) none).run Try.prog W = .ok (.slice (some ⟨gb, m * 2, none⟩) 1 (cap - m)) W := fun W => by
    have h := endK gb m n cap (by omega) hcap W
    rwa [show n - m = 1 by omega] at h
  have hij : ((i : Int) == (j : Int)) = false := by simp; omega
  obtain ⟨news, hnews⟩ : ∃ news, news = prs (l.drop j) := ⟨_, rfl⟩
  have hlen : news.length = (n - j) * 2 := by rw [hnews, len_prs, List.length_drop, hln]
  have own1 : w.drew.ownsRow B 27 2 (.slice (some ⟨gb, 0, none⟩) n cap) n (prs l) := own_below hM.2 (Below.refl _ _).drew
  obtain ⟨W1, hW1⟩ : ∃ W1, w.drew.setCells gb (i * 2) news = W1 := ⟨_, rfl⟩
  have own2 := own_setCells news (i * 2) w.drew (prs l) own1
  rw [hW1] at own2
  obtain ⟨W2, hW2⟩ : ∃ W2, W1.setCells gb (m * 2) [.int .i64 0, .int .i64 0] = W2 := ⟨_, rfl⟩
  have own3 := own_setCells [.int .i64 0, .int .i64 0] (m * 2) W1 _ own2
  rw [hW2] at own3
  have hcl : ∀ ty, (Builtin.clear_ #[22] ty #[.slice (some ⟨gb, m * 2, none⟩) 1 (cap - m)]).run Try.prog W1 = .ok (.tuple #[]) W2 := fun ty => by
    rw [← hW2]
    exact clearK W1 ty gb (m * 2) _ (fun q hq => ⟨own_cells own2 (by omega), own_frozen own2⟩)
  have HF : Hid (MineP 27 W2 B (some ⟨gb, 0, none⟩) m cap (l.eraseIdx i) ∧ Kept (fun k => k = gb) w W2) := by
    refine ⟨⟨by have h9 := len_er (l := l) (i := i) (by omega); omega, ?_⟩, ?_⟩
    · have h := own_shrink own3 (m := m) (by omega)
      have dr := del_row (sz := 2) (n := n) (cs := prs l) (news := news) (zs := [.int .i64 0, .int .i64 0]) (by rw [len_prs, hln]) hi hm ?_ rfl
      rw [dr] at h
      · rw [List.eraseIdx_eq_take_drop_succ, prs_app, ← hj, ← hnews]
        have e9 : prs l = prs (l.take i) ++ prs (l.drop i) := by rw [← prs_app, List.take_append_drop]
        rw [e9, List.take_append_of_le_length (by rw [len_prs, List.length_take]; omega), List.take_of_length_le (by rw [len_prs, List.length_take]; omega)] at h
        exact h
      · rw [hnews, ← hj]
        apply List.ext_getElem?
        intro q
        rw [prs_drop, List.getElem?_drop]
    · rw [← hW2, ← hW1]
      exact kept_setCells (S := fun k => k = gb) gb rfl _ _ _ (kept_setCells (S := fun k => k = gb) gb rfl _ _ _ (Kept.refl _ w).drew)
  have s1 : Hid (∀ q u, news[q]? = some u → w.drew.cell? (A.add q) = some u) := fun q u hu => by
    rw [hnews] at hu
    obtain ⟨a', e, hcell⟩ := HD.out.row.cell q u hu
    cases e
    exact hcell
  have s2 : Hid (∀ u ∈ news, u.oneCell' = true) := by rw [hnews]; exact prs_one _
  have s3 : Hid (∀ q, q < news.length → (w.drew.cell? ⟨gb, i * 2 + q, none⟩).isSome = true ∧ w.drew.frozen? ⟨gb, i * 2 + q, none⟩ = false) := fun q hq => ⟨own_cells own1 (by rw [hlen] at hq; have : j = i + 1 := hj; omega), own_frozen own1⟩
  have HL := hid hlen
  have HW1 := hid hW1
  have hN : Hid (i + (n - j) = m) := by unfold Hid; omega
  have hR : Hid (i + (n - j) ≤ cap) := by unfold Hid; omega
  clear hM hln hd eA HD hnews hlen own1 hW1 own2 hW2 own3 hj hm hz0 hz2
  go_enter Try.func61, Try.ntmps61
  go_wp2_with fail
  go_region_law (refine step_room rfl (.tmp 22) (.tmp 25) 22 rfl 27 i0 2 Try.underlying22 hi0 hz1 gb i cap (by simp [Act.eval, Act.put]) A (n - j) (cap - j) news (by simp [Act.eval, Act.put]) HL.out s1.out s2.out hR.out (s3.out) m hN.out W1 (HW1.out) ?_)
  go_wp2_with fail
  go_ret
  exact ⟨rfl, HF.out.1, HF.out.2⟩
/-- clear of one. -/
theorem clearI (w : World) (ty : TypeId) (b o c : Nat) (h : ∀ j, j < 1 → (w.cell? ⟨b, o + j, none⟩).isSome = true ∧ w.frozen? ⟨b, o + j, none⟩ = false) :
    (Builtin.clear_ #[23] ty #[.slice (some ⟨b, o, none⟩) 1 c]).run Try.prog w = .ok (.tuple #[]) (w.setCells b o [.int .i64 0]) := by
  have hst := run_storeCells_cells (P := Try.prog) b o [.int .i64 0] 0 w (fun j hj => (h j hj).1) (fun j hj => (h j hj).2) (by intro v hv; simp at hv; subst hv; rfl)
  simp only [Nat.add_zero] at hst
  have hz : (Builtin.zeroCells #[.int .i64 0] 1).toList = [.int .i64 0] := by kernel_rfl
  simp [Builtin.clear_, run_underlying Try.underlying23, Value.cells, hz, hst]
theorem midI (g i j n cap : Nat) (hij : i ≤ j) (hj : j ≤ n) (hc : n ≤ cap) (W : World) :
    (Instr.slice 23 (.slice (some ⟨g, 0, none⟩) n cap) (some (.int .i64 i)) (some (.int .i64 j)) (some (.int .i64 n))).run Try.prog W = .ok (.slice (if n = i then some ⟨g, 0, none⟩ else some (Addr.add ⟨g, 0, none⟩ (i * 1))) (j - i) (n - i)) W := by
  have hb1 := fun code => run_sliceBound (P := Try.prog) (w := W) .i64 (n : Int) cap code (by omega) (by omega)
  have hb2 := fun code => run_sliceBound (P := Try.prog) (w := W) .i64 (j : Int) n code (by omega) (by omega)
  have hb3 := fun code => run_sliceBound (P := Try.prog) (w := W) .i64 (i : Int) j code (by omega) (by omega)
  simp [Instr.slice, Instr.sliceBounds, run_underlying Try.underlying23, hb1, hb2, hb3, Try.sizeOf3]
theorem endI (g m n cap : Nat) (hm : m < n) (hc : n ≤ cap) (W : World) :
    (Instr.slice 23 (.slice (some ⟨g, 0, none⟩) m cap) (some (.int .i64 m)) (some (.int .i64 n)) none).run Try.prog W = .ok (.slice (some ⟨g, m, none⟩) (n - m) (cap - m)) W := by
  have hb2 := fun code => run_sliceBound (P := Try.prog) (w := W) .i64 (n : Int) cap code (by omega) (by omega)
  have hb3 := fun code => run_sliceBound (P := Try.prog) (w := W) .i64 (m : Int) n code (by omega) (by omega)
  have hne : ¬ cap = m := by omega
  have ha : (Addr.add ⟨g, 0, none⟩ (m)) = ⟨g, m, none⟩ := by unfold Addr.add; split <;> simp_all
  simp [Instr.slice, Instr.sliceBounds, run_underlying Try.underlying23, hb2, hb3, Try.sizeOf3, hne, ha]
set_option maxRecDepth 100000 in
set_option maxHeartbeats 2000000 in
/-- slices.Delete OF ONE. -/
theorem delI_any (B gb n cap i j m : Nat) (l : List Int) (w : World) (hi : i < n) (hj : j = i + 1) (hm : m + 1 = n) (hM : MineI w B (some ⟨gb, 0, none⟩) n cap l) :
    Calls Try.prog 62 #[.slice (some ⟨gb, 0, none⟩) n cap, .int .i64 (i : Int), .int .i64 (j : Int)] w fun e w' => e = .returned (.slice (some ⟨gb, 0, none⟩) m cap) ∧ MineI w' B (some ⟨gb, 0, none⟩) m cap (l.eraseIdx i) ∧ Kept (fun k => k = gb) w w' := by
  obtain ⟨i0, hi0, hz0, hz1, hz2⟩ := info_of infoN
  have hcap : n ≤ cap := (own_row hM.2).2.1
  have hln := hM.1
  have hd := has_drop hM.has j (by omega)
  obtain ⟨A, eA⟩ : ∃ A : Addr, (if cap = j then (some ⟨gb, 0, none⟩ : Option Addr) else (some (⟨gb, 0, none⟩ : Addr)).map (·.add (j * 1))) = some A := by
    split
    · exact ⟨_, rfl⟩
    · exact ⟨_, rfl⟩
  rw [eA] at hd
  have HD : Hid (Has w.drew (some A) (n - j) (cap - j) (l.drop j)) := hd.below (Below.refl _ _).drew
  have e0 := midI gb i j n cap (by omega) (by omega) hcap
  have e1 : ∀ W, (Instr.slice 23 (.slice (some ⟨gb, 0, none⟩) n cap) none (some (.int .i64 (i : Int))) none).run Try.prog W = .ok (.slice (some ⟨gb, 0, none⟩) i cap) W := fun W => run_toI _ i n cap (by omega) W
  have e2 : ∀ W, (Instr.slice 23 (.slice (some ⟨gb, 0, none⟩) n cap) (some (.int .i64 (j : Int))) none none).run Try.prog W = .ok (.slice (some A) (n - j) (cap - j)) W := fun W => by
    have h := run_fromI (some ⟨gb, 0, none⟩) j n cap (by omega) W
    rwa [eA] at h
  have e3 : ∀ W, (Instr.slice 23 (.slice (some ⟨gb, 0, none⟩) m cap) (some (.int .i64 (m : Int))) (some (.int .i64 (n : Int))) none).run Try.prog W = .ok (.slice (some ⟨gb, m, none⟩) 1 (cap - m)) W := fun W => by
    have h := endI gb m n cap (by omega) hcap W
    rwa [show n - m = 1 by omega] at h
  have hij : ((i : Int) == (j : Int)) = false := by simp; omega
  obtain ⟨news, hnews⟩ : ∃ news, news = vals (l.drop j) := ⟨_, rfl⟩
  have hlen : news.length = (n - j) * 1 := by rw [hnews, len_vals, List.length_drop, hln]; omega
  have own1 : w.drew.ownsRow B 3 1 (.slice (some ⟨gb, 0, none⟩) n cap) n (vals l) := own_below hM.2 (Below.refl _ _).drew
  obtain ⟨W1, hW1⟩ : ∃ W1, w.drew.setCells gb (i) news = W1 := ⟨_, rfl⟩
  have own2 := own_setCells news (i) w.drew (vals l) own1
  rw [hW1] at own2
  obtain ⟨W2, hW2⟩ : ∃ W2, W1.setCells gb (m) [.int .i64 0] = W2 := ⟨_, rfl⟩
  have own3 := own_setCells [.int .i64 0] (m) W1 _ own2
  rw [hW2] at own3
  have hcl : ∀ ty, (Builtin.clear_ #[23] ty #[.slice (some ⟨gb, m, none⟩) 1 (cap - m)]).run Try.prog W1 = .ok (.tuple #[]) W2 := fun ty => by
    rw [← hW2]
    exact clearI W1 ty gb (m) _ (fun q hq => ⟨own_cells own2 (by omega), own_frozen own2⟩)
  have HF : Hid (MineI W2 B (some ⟨gb, 0, none⟩) m cap (l.eraseIdx i) ∧ Kept (fun k => k = gb) w W2) := by
    refine ⟨⟨by have h9 := len_er (l := l) (i := i) (by omega); omega, ?_⟩, ?_⟩
    · have h := own_shrink own3 (m := m) (by omega)
      have dr := del_row (sz := 1) (n := n) (cs := vals l) (news := news) (zs := [.int .i64 0]) (by rw [len_vals, hln]; omega) hi hm ?_ rfl
      simp only [Nat.mul_one] at dr h
      rw [dr] at h
      · rw [List.eraseIdx_eq_take_drop_succ, vals_app, ← hj, ← hnews]
        have e9 : vals l = vals (l.take i) ++ vals (l.drop i) := by rw [← vals_app, List.take_append_drop]
        rw [e9, List.take_append_of_le_length (by rw [len_vals, List.length_take]; omega), List.take_of_length_le (by rw [len_vals, List.length_take]; omega)] at h
        exact h
      · rw [hnews, ← hj]
        apply List.ext_getElem?
        intro q
        rw [vals_drop, List.getElem?_drop]
    · rw [← hW2, ← hW1]
      exact kept_setCells (S := fun k => k = gb) gb rfl _ _ _ (kept_setCells (S := fun k => k = gb) gb rfl _ _ _ (Kept.refl _ w).drew)
  have s1 : Hid (∀ q u, news[q]? = some u → w.drew.cell? (A.add q) = some u) := fun q u hu => by
    rw [hnews] at hu
    obtain ⟨a', e, hcell⟩ := HD.out.row.cell q u hu
    cases e
    exact hcell
  have s2 : Hid (∀ u ∈ news, u.oneCell' = true) := by rw [hnews]; exact vals_one _
  have s3 : Hid (∀ q, q < news.length → (w.drew.cell? ⟨gb, i + q, none⟩).isSome = true ∧ w.drew.frozen? ⟨gb, i + q, none⟩ = false) := fun q hq => ⟨own_cells own1 (by rw [hlen] at hq; have : j = i + 1 := hj; omega), own_frozen own1⟩
  have HL := hid hlen
  have HW1 := hid hW1
  have hN : Hid (i + (n - j) = m) := by unfold Hid; omega
  have hR : Hid (i + (n - j) ≤ cap) := by unfold Hid; omega
  clear hM hln hd eA HD hnews hlen own1 hW1 own2 hW2 own3 hj hm hz0 hz2
  go_enter Try.func62, Try.ntmps62
  go_wp2_with fail
  go_region_law (refine step_room rfl (.tmp 22) (.tmp 25) 23 rfl 3 i0 1 Try.underlying23 hi0 hz1 gb i cap (by simp [Act.eval, Act.put]) A (n - j) (cap - j) news (by simp [Act.eval, Act.put]) HL.out s1.out s2.out hR.out (by rw [Nat.mul_one]; exact s3.out) m hN.out W1 (by rw [Nat.mul_one]; exact HW1.out) ?_)
  go_wp2_with fail
  go_ret
  exact ⟨rfl, HF.out.1, HF.out.2⟩
end Go.Proofs.Ytcldnacpddebcaa.Gh
