/- Places, their things, and who may take them: no program. -/
import Derived.Below
namespace Go.Proofs.Ytnagpedkmfmniaa.Ar

/-- A THING's EIGHT NUMBERS. -/
structure Th where
  ty : Int
  gen : Int
  refs : Int
  st : Int
  sz : Int
  wa : Int
  fm : Int
  va : Int
def Th.zero : Th := ⟨0, 0, 0, 0, 0, 0, 0, 0⟩
def Th.none (g : Int) : Th := ⟨0, g, 0, 0, 0, 0, -1, 0⟩
theorem Th.ext' {x y : Th} (h0 : x.ty = y.ty) (h1 : x.gen = y.gen) (h2 : x.refs = y.refs) (h3 : x.st = y.st) (h4 : x.sz = y.sz) (h5 : x.wa = y.wa) (h6 : x.fm = y.fm) (h7 : x.va = y.va) : x = y := by
  cases x; cases y; simp_all
/-- AN ARENA: the things, place by place, and each core's list. -/
structure Ar where
  ts : List Th
  fr : List (List Int)

def liveT (t : Th) : Bool := decide (1 ≤ t.ty ∧ t.ty ≤ 5)
theorem live_iff {t : Th} : liveT t = true ↔ (1 ≤ t.ty ∧ t.ty ≤ 5) := by simp [liveT]
theorem live_not {t : Th} : liveT t = false ↔ ¬ (1 ≤ t.ty ∧ t.ty ≤ 5) := by simp [liveT]
theorem live_none (g : Int) : liveT (Th.none g) = false := rfl
def at_ (ts : List Th) (p : Int) : Th := ts.getD p.toNat Th.zero
def li (fr : List (List Int)) (c : Int) : List Int := fr.getD c.toNat []
/-- How often a place is in the lists. -/
def cnt (fr : List (List Int)) (p : Int) : Nat := fr.flatten.count p

structure OkT (t : Th) : Prop where
  ty0 : 0 ≤ t.ty
  ty5 : t.ty ≤ 5
  g0 : -1 ≤ t.gen
  g1 : t.gen ≤ 4095
  gl : t.gen = -1 → liveT t = false
  r0 : 0 ≤ t.refs
  rl : liveT t = false → t.refs = 0
structure OkP (a : Ar) (p : Int) : Prop where
  p0 : 0 ≤ p
  p1 : p < a.ts.length
  nl : liveT (at_ a.ts p) = false
  ng : (at_ a.ts p).gen ≠ -1
  one : cnt a.fr p = 1
/-- AN ARENA THAT MAY BE. -/
structure Ok (a : Ar) : Prop where
  t0 : 1 ≤ a.ts.length
  t1 : a.ts.length ≤ 64
  f0 : 1 ≤ a.fr.length
  f1 : a.fr.length ≤ 64
  things : ∀ k, k < a.ts.length → OkT (a.ts.getD k Th.zero)
  places : ∀ p, p ∈ a.fr.flatten → OkP a p

def okTB (t : Th) : Bool := decide (0 ≤ t.ty ∧ t.ty ≤ 5 ∧ -1 ≤ t.gen ∧ t.gen ≤ 4095 ∧ (t.gen = -1 → liveT t = false) ∧ 0 ≤ t.refs ∧ (liveT t = false → t.refs = 0))
theorem okTB_iff {t : Th} : okTB t = true ↔ OkT t := by
  unfold okTB
  rw [decide_eq_true_iff]
  exact ⟨fun ⟨a, b, c, d, e, f, g⟩ => ⟨a, b, c, d, e, f, g⟩, fun h => ⟨h.ty0, h.ty5, h.g0, h.g1, h.gl, h.r0, h.rl⟩⟩
def okPB (a : Ar) (p : Int) : Bool := decide (0 ≤ p ∧ p < a.ts.length ∧ liveT (at_ a.ts p) = false ∧ (at_ a.ts p).gen ≠ -1 ∧ cnt a.fr p = 1)
theorem okPB_iff {a : Ar} {p : Int} : okPB a p = true ↔ OkP a p := by
  unfold okPB
  rw [decide_eq_true_iff]
  exact ⟨fun ⟨a, b, c, d, e⟩ => ⟨a, b, c, d, e⟩, fun h => ⟨h.p0, h.p1, h.nl, h.ng, h.one⟩⟩
def okA (a : Ar) : Bool := decide (1 ≤ a.ts.length ∧ a.ts.length ≤ 64 ∧ 1 ≤ a.fr.length ∧ a.fr.length ≤ 64) && (a.ts.all okTB && a.fr.flatten.all (okPB a))
theorem all_getD {α : Type} (l : List α) (z : α) (P : α → Prop) : (∀ x, x ∈ l → P x) ↔ ∀ k, k < l.length → P (l.getD k z) := by
  constructor
  · intro h k hk
    have : l.getD k z = l[k] := by simp [List.getD, hk]
    rw [this]
    exact h _ (List.getElem_mem hk)
  · intro h x hx
    obtain ⟨k, hk, rfl⟩ := List.getElem_of_mem hx
    have := h k hk
    rwa [show l.getD k z = l[k] by simp [List.getD, hk]] at this
theorem okA_iff {a : Ar} : okA a = true ↔ Ok a := by
  unfold okA
  rw [Bool.and_eq_true, Bool.and_eq_true, decide_eq_true_iff, List.all_eq_true, List.all_eq_true]
  constructor
  · rintro ⟨⟨h1, h2, h3, h4⟩, h5, h6⟩
    exact ⟨h1, h2, h3, h4, (all_getD a.ts Th.zero OkT).1 (fun x hx => okTB_iff.1 (h5 x hx)), fun p hp => okPB_iff.1 (h6 p hp)⟩
  · intro h
    exact ⟨⟨h.t0, h.t1, h.f0, h.f1⟩, fun x hx => okTB_iff.2 ((all_getD a.ts Th.zero OkT).2 h.things x hx), fun p hp => okPB_iff.2 (h.places p hp)⟩
theorem okA_not {a : Ar} : okA a = false ↔ ¬ Ok a := by rw [← okA_iff]; simp

/-! ### Lists of lists -/
theorem mem_cnt {fr : List (List Int)} {p : Int} : p ∈ fr.flatten ↔ 0 < cnt fr p := List.count_pos_iff.symm
theorem cnt_cons (l : List Int) (r : List (List Int)) (p : Int) : cnt (l :: r) p = l.count p + cnt r p := by simp [cnt]
theorem cnt_set (fr : List (List Int)) (c : Nat) (l : List Int) (hc : c < fr.length) (p : Int) : cnt (fr.set c l) p + (fr.getD c []).count p = cnt fr p + l.count p := by
  induction fr generalizing c with
  | nil => simp at hc
  | cons x r ih =>
    cases c with
    | zero => simp only [List.set_cons_zero, cnt_cons, List.getD_cons_zero]; omega
    | succ c =>
      have := ih c (by simpa using hc)
      simp only [List.set_cons_succ, cnt_cons, List.getD_cons_succ]
      omega
theorem mem_li {fr : List (List Int)} {c : Nat} (hc : c < fr.length) {p : Int} (h : p ∈ fr.getD c []) : p ∈ fr.flatten := by
  rw [List.mem_flatten]
  refine ⟨fr.getD c [], ?_, h⟩
  rw [show fr.getD c [] = fr[c] by simp [List.getD, hc]]
  exact List.getElem_mem hc
theorem of_mem_flatten {fr : List (List Int)} {p : Int} (h : p ∈ fr.flatten) : ∃ c k, c < fr.length ∧ k < (fr.getD c []).length ∧ (fr.getD c []).getD k 0 = p := by
  rw [List.mem_flatten] at h
  obtain ⟨l, hl, hp⟩ := h
  obtain ⟨c, hc, rfl⟩ := List.getElem_of_mem hl
  obtain ⟨k, hk, rfl⟩ := List.getElem_of_mem hp
  have e : fr.getD c [] = fr[c] := by simp [List.getD, hc]
  refine ⟨c, k, hc, by rw [e]; exact hk, ?_⟩
  rw [e]
  simp [List.getD, hk]
theorem getD_mem {α : Type} (l : List α) (z : α) (k : Nat) (hk : k < l.length) : l.getD k z ∈ l := by
  rw [show l.getD k z = l[k] by simp [List.getD, hk]]
  exact List.getElem_mem hk
theorem mem_at {fr : List (List Int)} {c k : Nat} (hc : c < fr.length) (hk : k < (fr.getD c []).length) : (fr.getD c []).getD k 0 ∈ fr.flatten := mem_li hc (getD_mem _ 0 k hk)
/-- No list of an arena that may be is longer than its things. -/
theorem nodup_len (n : Nat) (l : List Int) (h : ∀ p, p ∈ l → 0 ≤ p ∧ p < (n : Int)) (h1 : ∀ p, p ∈ l → l.count p = 1) : l.length ≤ n := by
  induction n generalizing l with
  | zero =>
    cases l with
    | nil => simp
    | cons x r => have := h x (by simp); omega
  | succ n ih =>
    have hlen : (l.filter (fun x => !(x == (n : Int)))).length + l.count (n : Int) = l.length := by
      rw [← List.countP_eq_length_filter, Nat.add_comm]
      have := List.length_eq_countP_add_countP (fun x => x == (n : Int)) (l := l)
      rw [List.count]
      simp only [Bool.not_eq_true] at this
      rw [this]
      congr 1
      apply List.countP_congr
      intro x _
      cases (x == (n : Int)) <;> simp
    have hle : (l.filter (fun x => !(x == (n : Int)))).length ≤ n := by
      refine ih _ (fun p hp => ?_) (fun p hp => ?_)
      · obtain ⟨h2, h3⟩ := List.mem_filter.1 hp
        have := h p h2
        simp at h3
        omega
      · obtain ⟨h2, h3⟩ := List.mem_filter.1 hp
        rw [List.count_filter (by exact h3)]
        exact h1 p h2
    have hc : l.count (n : Int) ≤ 1 := by
      by_cases hm : (n : Int) ∈ l
      · rw [h1 _ hm]; exact Nat.le_refl _
      · rw [List.count_eq_zero.2 hm]; omega
    omega
theorem cnt_li (fr : List (List Int)) (c : Nat) (p : Int) : (fr.getD c []).count p ≤ cnt fr p := by
  induction fr generalizing c with
  | nil => simp [cnt]
  | cons x r ih =>
    rw [cnt_cons]
    cases c with
    | zero => rw [List.getD_cons_zero]; omega
    | succ c => have := ih c; rw [List.getD_cons_succ]; omega
theorem Ok.len {a : Ar} (h : Ok a) (c : Nat) (hc : c < a.fr.length) : (a.fr.getD c []).length ≤ 64 := by
  refine Nat.le_trans (nodup_len a.ts.length _ (fun p hp => ?_) (fun p hp => ?_)) h.t1
  · have := h.places p (mem_li hc hp); exact ⟨this.p0, this.p1⟩
  · have := (h.places p (mem_li hc hp)).one
    have h2 := cnt_li a.fr c p
    have h3 := List.count_pos_iff.2 hp
    omega
end Go.Proofs.Ytnagpedkmfmniaa.Ar
