/- What slices.Clone and slices.Compact of keys do. -/
import Derived.Test.YthonibklaijejaaOrW1
import Derived.Lib.SliceRun
import Derived.Deep.RegionLaw
import Derived.Deep.LoopGhost
namespace Go.Proofs.Ythonibklaijejaa.Or
open Go.RowKit Go.Lib

/-- Keys lie one behind the other in the block g, and may be written. -/
def Lay (w : World) (g : Nat) (d : Array K) : Prop :=
  ∀ i, i < d.size → w.cell? ⟨g, i * 2, none⟩ = some (.int .i64 d[i]!.1) ∧ w.cell? ⟨g, i * 2 + 1, none⟩ = some (.int .i64 d[i]!.2) ∧ w.frozen? ⟨g, i * 2, none⟩ = false ∧ w.frozen? ⟨g, i * 2 + 1, none⟩ = false
theorem lay_row {w : World} {g : Nat} {d : Array K} (h : Lay w g d) (l : List K) (hl : ∀ j, j < l.length → j < d.size ∧ l[j]? = some d[j]!) : Row w (some ⟨g, 0, none⟩) (keys l) := by
  refine ⟨fun j u hu => ⟨_, rfl, ?_⟩⟩
  obtain ⟨c, h1, h2⟩ := keys_get hu
  have hj := (List.getElem?_eq_some_iff.1 h1).1
  obtain ⟨hd, he⟩ := hl (j / 2) hj
  rw [h1] at he
  cases he
  obtain ⟨a0, a1, -, -⟩ := h (j / 2) hd
  have : j % 2 = 0 ∨ j % 2 = 1 := by omega
  rcases this with e | e
  · rw [e] at h2
    simp [kC] at h2
    subst h2
    rw [show j / 2 * 2 = j by omega] at a0
    by_cases hz : j = 0
    · subst hz; exact a0
    · simpa [Addr.add, hz] using a0
  · rw [e] at h2
    simp [kC] at h2
    subst h2
    rw [show j / 2 * 2 + 1 = j by omega] at a1
    simpa [Addr.add, show j ≠ 0 by omega] using a1
theorem own_lay {w : World} {B n cap g : Nat} {l : List K} (h : w.ownsRow B 23 2 (.slice (some ⟨g, 0, none⟩) n cap) n (keys l)) : Lay w g l.toArray := by
  intro i hi
  have hi' : i < l.length := by simpa using hi
  obtain ⟨a, e, c0, c1⟩ := atK_of (own_row h).1 i hi'
  cases e
  have e2 : l.toArray[i]! = l.getD i (0, 0) := by simp [List.getD, hi']
  rw [e2]
  have ea : (Addr.add ⟨g, 0, none⟩ (i * 2)) = ⟨g, i * 2, none⟩ := by
    unfold Addr.add
    split
    · simp
    · simp
  rw [ea] at c0 c1
  exact ⟨c0, c1, own_frozen h, own_frozen h⟩
theorem set_same {w : World} {a : Addr} {u : Value} (v : Value) (h : w.cell? a = some u) : (w.setCell a v).cell? a = some v := World.cell?_setCell_same' w a v (by rw [h]; rfl)
theorem set_other {w : World} {g i j : Nat} (v : Value) (h : i ≠ j) : (w.setCell ⟨g, i, none⟩ v).cell? ⟨g, j, none⟩ = w.cell? ⟨g, j, none⟩ := World.cell?_setCell_other w _ _ v (by intro e; exact h (congrArg Addr.off e))
theorem lay_set {w : World} {g k : Nat} {d : Array K} (h : Lay w g d) (hk : k < d.size) (x : K) : Lay ((w.setCell ⟨g, k * 2, none⟩ (.int .i64 x.1)).setCell ⟨g, k * 2 + 1, none⟩ (.int .i64 x.2)) g (d.setIfInBounds k x) := by
  intro i hi
  have hi' : i < d.size := by simpa using hi
  obtain ⟨a0, a1, f0, f1⟩ := h i hi'
  obtain ⟨k0, k1, -, -⟩ := h k hk
  refine ⟨?_, ?_, by rw [World.frozen?_setCell, World.frozen?_setCell]; exact f0, by rw [World.frozen?_setCell, World.frozen?_setCell]; exact f1⟩
  · rw [set_other _ (by omega)]
    by_cases e : i = k
    · subst e
      rw [set_same _ k0, Go.Sort.getElem!_set_same d i x hk]
    · rw [set_other _ (by omega), Go.Sort.getElem!_set_other d k i x e]
      exact a0
  · by_cases e : i = k
    · subst e
      rw [set_same (u := .int .i64 d[i]!.2) _ (by rw [set_other _ (by omega)]; exact k1), Go.Sort.getElem!_set_same d i x hk]
    · rw [set_other _ (by omega), set_other _ (by omega), Go.Sort.getElem!_set_other d k i x e]
      exact a1
theorem lay_cells {w : World} {g : Nat} {d : Array K} (h : Lay w g d) (j : Nat) (hj : j < d.size * 2) : (w.cell? ⟨g, j, none⟩).isSome = true ∧ w.frozen? ⟨g, j, none⟩ = false := by
  obtain ⟨a0, a1, f0, f1⟩ := h (j / 2) (by omega)
  have : j % 2 = 0 ∨ j % 2 = 1 := by omega
  rcases this with e | e
  · rw [show j / 2 * 2 = j by omega] at a0 f0
    exact ⟨by rw [a0]; rfl, f0⟩
  · rw [show j / 2 * 2 + 1 = j by omega] at a1 f1
    exact ⟨by rw [a1]; rfl, f1⟩
/-- n zero keys as cells. -/
def zeros (n : Nat) : List Value := (Builtin.zeroCells #[.int .i64 0, .int .i64 0] n).toList
theorem len_zeros (n : Nat) : (zeros n).length = n * 2 := by simp [zeros, Builtin.zeroCells]
theorem zeros_one (n : Nat) : ∀ u ∈ zeros n, u.oneCell' = true := by
  intro u hu
  simp only [zeros, Builtin.zeroCells, Array.toList_map, List.mem_map] at hu
  obtain ⟨i, _, rfl⟩ := hu
  have : i % 2 = 0 ∨ i % 2 = 1 := by omega
  rcases this with e | e <;> simp [e] <;> rfl
theorem run_clear_keys (w : World) (ty : TypeId) (b o n c : Nat) (hn : 0 < n) (h : ∀ j, j < n * 2 → (w.cell? ⟨b, o + j, none⟩).isSome = true ∧ w.frozen? ⟨b, o + j, none⟩ = false) :
    (Builtin.clear_ #[36] ty #[.slice (some ⟨b, o, none⟩) n c]).run Try.prog w = .ok (.tuple #[]) (w.setCells b o (zeros n)) := by
  have hst := run_storeCells_cells (P := Try.prog) b o (zeros n) 0 w (fun j hj => by rw [len_zeros] at hj; exact (h j hj).1) (fun j hj => by rw [len_zeros] at hj; exact (h j hj).2) (zeros_one n)
  simp only [Nat.add_zero] at hst
  unfold zeros at hst
  obtain ⟨m, rfl⟩ : ∃ m, n = m + 1 := ⟨n - 1, by omega⟩
  simp [Builtin.clear_, run_underlying Try.underlying36, Value.cells, hst]
  rfl
theorem kept_setCells {S : Nat → Prop} {a : World} (g : Nat) (hg : S g) (vs : List Value) : ∀ (o : Nat) (b : World), Kept S a b → Kept S a (b.setCells g o vs) := by
  induction vs with
  | nil => exact fun _ _ h => h
  | cons v r ih => exact fun o b h => ih (o + 1) _ (h.setCell _ _ (fun _ => hg))
theorem lay_drewN {w : World} {g : Nat} {d : Array K} (h : Lay w g d) (n : Nat) : Lay (w.drewN n) g d := h
theorem eqN (w : World) (a : Option Addr) (n c n' c' : Nat) : (binOp .eql 36 (.slice a n c) (.slice none n' c')).run Try.prog w = .ok (.bool a.isNone) w := Lib.run_eql_slice_nil w _ _ a n c n' c' Try.underlying36
set_option maxHeartbeats 400000 in
theorem clone_nil (w : World) :
    Calls Try.prog 29 #[.slice none 0 0] w fun e w' => e = .returned (.slice none 0 0) ∧ w' = w := by
  have q := eqN
  go_enter Try.func29, Try.ntmps29
  go_wp2
  go_ret
  exact ⟨rfl, rfl⟩
set_option maxHeartbeats 400000 in
theorem clone_some (a : Addr) (n cap : Nat) (cs : List Value) (w : World) (hn : Hid (cs.length = n * 2)) (hs : Hid (n ≤ 5000)) (hr : Hid (Row w (some a) cs)) (h1 : Hid (∀ u ∈ cs, u.oneCell' = true)) :
    Calls Try.prog 29 #[.slice (some a) n cap] w fun e w' => ∃ ao' cap', e = .returned (.slice ao' n cap') ∧ w'.ownsRow w.heap.size 23 2 (.slice ao' n cap') n cs ∧ Below w.heap.size w w' := by
  have q := eqN
  go_enter Try.func29, Try.ntmps29
  go_wp2_with (at_builtin; refine wpList_append_row _ rfl (.tmp 5) (.tmp 6) 36 23 _ 2 16 rfl Try.underlying36 infoK rfl (by decide) (by decide) w.heap.size _ 0 [] rfl (own0 w 23 2) (some a) n cap cs rfl hn.out (fun h => by cases h) (hr.out.below (alloc_below w _)) h1.out (by have := hs.out; omega) (alloc_below w _).size ?_; intro ao1 cap1 w1 hown1 hgrow1; have b1 := app_below hgrow1; rw [Nat.zero_add, List.nil_append] at hown1; rw [Nat.zero_add]; have HO : Hid (w1.ownsRow w.heap.size 23 2 (.slice ao1 n cap1) n cs) := hown1; clear hown1 hgrow1)
  go_ret
  exact ⟨ao1, cap1, rfl, HO.out, b1⟩
/-- slices.Clone OF KEYS: WHAT LIES THERE, IN A ROW OF ITS OWN. -/
theorem clone_any (ao : Option Addr) (n cap : Nat) (l : List K) (w : World) (hs : n ≤ 5000) (h : Has w ao n cap l) :
    Calls Try.prog 29 #[.slice ao n cap] w fun e w' => ∃ ao' cap', e = .returned (.slice ao' n cap') ∧ Mine w' w.heap.size ao' n cap' l ∧ Below w.heap.size w w' := by
  cases ao with
  | none =>
    have h0 := row_none h.row
    have hl := len_keys l
    rw [h0] at hl
    have hn0 : n = 0 := by rw [h.len]; simp at hl; omega
    have hc := h.nil rfl
    subst hn0 hc
    refine (clone_nil w).mono ?_
    rintro e w' ⟨rfl, rfl⟩
    exact ⟨none, 0, rfl, ⟨h.len, by rw [h0]; exact World.ownsRow_nil _ _ _ _⟩, Below.refl _ _⟩
  | some a =>
    refine (clone_some a n cap (keys l) w (by rw [len_keys, h.len]; exact rfl) hs h.row (keys_one l)).mono ?_
    rintro e w' ⟨ao', cap', rfl, ho, hb⟩
    exact ⟨ao', cap', rfl, ⟨h.len, ho⟩, hb⟩

set_option maxRecDepth 100000 in
set_option maxHeartbeats 600000 in
theorem compact_some (g cap : Nat) (d : Array K) (w : World) (HL : Hid (Lay w g d)) (hsz : d.size ≤ 5000) (hcap : d.size ≤ cap) (hcap2 : cap ≤ 9223372036854775807) (h2 : ¬ d.size < 2) :
    Calls Try.prog 32 #[.slice (some ⟨g, 0, none⟩) d.size cap] w fun e w' => e = .returned (.slice (some ⟨g, 0, none⟩) (compactUpTo d d.size).length cap) ∧ Row w' (some ⟨g, 0, none⟩) (keys (compactUpTo d d.size)) ∧ Kept (fun k => k = g) w w' := by
  go_enter Try.func32, Try.ntmps32
  go_wp2
  go_loopg [3] d.size (fun gh s3 wr => ∃ k q : Nat, 1 ≤ k ∧ k ≤ d.size ∧ d.size - k ≤ gh ∧ s3 = .int .i64 k ∧ wr = w.drewN q ∧ Hid (∀ j, j < k → keeps d j = true))
  case atStart => exact ⟨1, 0, Nat.le_refl _, by omega, by omega, rfl, rfl, keeps_lt_one d⟩
  case round =>
    obtain ⟨k, q, hk1, hk, hg, rfl, rfl, HA⟩ := hrel
    by_cases hlt : k < d.size
    · have i1 : (0 : Int) ≤ (k : Int) := by omega
      have i2 : (k : Int) < (d.size : Int) := by omega
      have i3 : (0 : Int) ≤ (k : Int) - 1 := by omega
      have i4 : (k : Int) - 1 < (d.size : Int) := by omega
      obtain ⟨c0, c1, -, -⟩ := HL.out k hlt
      obtain ⟨p0, p1, -, -⟩ := HL.out (k - 1) (by omega)
      obtain ⟨x, hx⟩ : ∃ x, d[k]! = x := ⟨_, rfl⟩
      obtain ⟨y, hy⟩ : ∃ y, d[k - 1]! = y := ⟨_, rfl⟩
      rw [hx] at c0 c1
      rw [hy] at p0 p1
      have HX := hid hx
      have HY := hid hy
      clear hx hy
      by_cases hxy : x = y
      · have he := eq_yes hxy
        have HXY := hid hxy
        clear hxy
        go_wp2
        go_quiet (fail)
        go_wp2
        clear c0 c1 p0 p1 he
        go_loopg [3, 5] d.size (fun gh s3 s5 wr => ∃ (kk k2 : Nat) (dk : Array K), s3 = .int .i64 kk ∧ s5 = .int .i64 k2 ∧ 1 ≤ k2 ∧ k + k2 ≤ d.size ∧ d.size - (k + k2) ≤ gh ∧ Hid (Lay wr g dk) ∧ Hid (Kept (fun k => k = g) w wr) ∧ Hid (CompInv d (k + k2) kk dk))
        case atStart => exact ⟨k, 1, d, rfl, rfl, Nat.le_refl _, by omega, by omega, lay_drewN HL.out _, (Kept.refl _ w).drewN _, CompInv.start HA.out (keeps_neg (by omega) (by rw [HX.out, HY.out, HXY.out]))⟩
        case round =>
          obtain ⟨kk, k2, dk, rfl, rfl, h1, hle, hg2, HL2, HK2, HI⟩ := hrel
          have hkk := HI.out.lt
          have hds := HI.out.size
          by_cases hlt2 : k + k2 < d.size
          · obtain ⟨m0, m1, -, -⟩ := HL2.out (k + k2) (by omega)
            obtain ⟨p0, p1, -, -⟩ := HL2.out (k + k2 - 1) (by omega)
            obtain ⟨k0, k1, f0, f1⟩ := HL2.out kk (by omega)
            rw [HI.out.high (k + k2) (by omega), show (k + k2) * 2 = k * 2 + k2 * 2 by omega] at m0 m1
            rw [HI.out.high (k + k2 - 1) (by omega), show (k + k2 - 1) * 2 = k * 2 + (k2 - 1) * 2 by omega] at p0 p1
            obtain ⟨u, hu⟩ : ∃ u, d[k + k2]! = u := ⟨_, rfl⟩
            obtain ⟨v, hv⟩ : ∃ v, d[k + k2 - 1]! = v := ⟨_, rfl⟩
            obtain ⟨z, hz⟩ : ∃ z, dk[kk]! = z := ⟨_, rfl⟩
            rw [hu] at m0 m1
            rw [hv] at p0 p1
            rw [hz] at k0 k1
            have HU := hid hu
            have HV := hid hv
            clear hu hv hz hds
            by_cases huv : u = v
            · have he := eq_yes huv
              have HUV := hid huv
              clear huv
              go_wp2
              go_quiet (fail)
              go_wp2
              go_roundg (d.size - (k + (k2 + 1)))
              case measure => omega
              case rel => exact ⟨kk, k2 + 1, dk, rfl, by go_num, by omega, by omega, Nat.le_refl _, lay_drewN HL2.out _, HK2.out.drewN _, HI.out.skip (keeps_neg (by omega) (by rw [HU.out, HV.out, HUV.out]))⟩
            · have he := eq_no huv
              have HUV := hid huv
              clear huv
              go_wp2
              go_quiet (fail)
              go_wp2
              go_roundg (d.size - (k + (k2 + 1)))
              case measure => omega
              case rel => exact ⟨kk + 1, k2 + 1, dk.setIfInBounds kk u, by go_num, by go_num, by omega, by omega, Nat.le_refl _, lay_set (lay_drewN HL2.out _) (by have := HI.out.size; omega) u, ((HK2.out.drewN _).setCell _ _ (fun _ => rfl)).setCell _ _ (fun _ => rfl), by have := HI.out.keep hlt2 (keeps_pos (by rw [HU.out, HV.out]; exact HUV.out)); rwa [HU.out] at this⟩
          · have hcl := fun ty => run_clear_keys wr ty g (kk * 2) (d.size - kk) (cap - kk) (by omega) (fun j hj => lay_cells HL2.out (kk * 2 + j) (by omega))
            have HE : Hid (k + k2 = d.size) := by unfold Hid; omega
            clear hds
            go_wp2
            go_ret
            have hI := HI.out
            rw [HE.out] at hI
            refine ⟨by rw [hI.len]; rfl, ?_, kept_setCells (S := fun k => k = g) g rfl _ _ _ HK2.out⟩
            refine ⟨fun j u hu => ⟨_, rfl, ?_⟩⟩
            have hj := (List.getElem?_eq_some_iff.1 hu).1
            rw [len_keys, hI.len] at hj
            rw [World.cell?_setCells_out g _ _ _ _ (fun _ _ => by left; unfold Addr.add; split <;> simp <;> omega)]
            obtain ⟨a, e, hc⟩ := (lay_row HL2.out (compactUpTo d d.size) (fun i hi => ⟨by rw [hI.len] at hi; have := hI.size; omega, hI.low i (by rw [hI.len] at hi; exact hi)⟩)).cell j u hu
            cases e
            exact hc
      · have he := eq_no hxy
        have HXY := hid hxy
        clear hxy
        go_wp2
        go_quiet (fail)
        go_wp2
        go_roundg (d.size - (k + 1))
        case measure => omega
        case rel =>
          refine ⟨k + 1, q + nq, by omega, by omega, Nat.le_refl _, by go_num, rfl, fun j hj => ?_⟩
          by_cases e : j = k
          · subst e
            exact keeps_pos (by rw [HX.out, HY.out]; exact HXY.out)
          · exact HA.out j (by omega)
    · obtain rfl : k = d.size := by omega
      have hall : compactUpTo d d.size = d.toList := by rw [compactUpTo_all d _ HA.out, range_map_get]
      have HC := hid hall
      clear hall
      go_wp2
      go_ret
      refine ⟨by rw [HC.out]; simp, ?_, (Kept.refl _ w).drewN _⟩
      rw [HC.out]
      exact lay_row (lay_drewN HL.out q) _ (fun j hj => ⟨by simpa using hj, by simp at hj; simp [hj]⟩)
set_option maxHeartbeats 400000 in
theorem compact_few (ao : Option Addr) (n cap : Nat) (w : World) (hn : n < 2) :
    Calls Try.prog 32 #[.slice ao n cap] w fun e w' => e = .returned (.slice ao n cap) ∧ w' = w := by
  go_enter Try.func32, Try.ntmps32
  go_wp2
  go_ret
  exact ⟨rfl, rfl⟩
end Go.Proofs.Ythonibklaijejaa.Or
