/- What ones yields: the bits that are set, the least one first, or a part of them where a round has said no more; what Count, Next, Low and High answer. -/
import Derived.RangeFuncNested
import Derived.RangeFuncBound
import Derived.RangeFuncCalls
import Derived.RangeFuncLeaves
import Derived.Shelf.Abstract
import Derived.Shelf.RegionOpen
import Derived.WalkKit
import Derived.OwnWalkIn
import Derived.TacticsInMore
import Derived.LoopNIn
import Derived.LoopIn
import Derived.Test.YtdngpjgpomjncaaDoorChecked
import Derived.Test.YtdngpjgpomjncaaDoorMath
namespace Go.Proofs.YtdngpjgpomjncaaDoor
open Go.RowKit Go.Shelf
attribute [local go_sem] Oper.semAt_some

/-- The bits below k that are set, rising. -/
def upto (x k : Nat) : List Nat := (List.range k).filter fun i => x.testBit i
theorem upto_zero (x : Nat) : upto x 0 = [] := rfl
theorem upto_yes {x k : Nat} (h : x.testBit k = true) : upto x (k + 1) = upto x k ++ [k] := by
  simp [upto, List.range_succ, List.filter_append, h]
theorem upto_no {x k : Nat} (h : x.testBit k = false) : upto x (k + 1) = upto x k := by
  simp [upto, List.range_succ, List.filter_append, h]
theorem upto_length (x k : Nat) : (upto x k).length ≤ k := by
  have := List.length_filter_le (fun i => x.testBit i) (List.range k)
  simpa [upto] using this
theorem upto_prefix (x : Nat) {j k : Nat} (h : j ≤ k) : upto x j <+: upto x k := by
  induction k with
  | zero => obtain rfl : j = 0 := by omega
            exact List.prefix_refl _
  | succ k ih =>
    by_cases e : j = k + 1
    · subst e; exact List.prefix_refl _
    · have hp := ih (by omega)
      cases hb : x.testBit k with
      | true => rw [upto_yes hb]; exact hp.trans (List.prefix_append _ _)
      | false => rw [upto_no hb]; exact hp

/-- WHAT A ROUND KEEPS: the box of the word. -/
def KeepC (B : Nat) (W W' : World) : Prop := ∀ v, W.cell? ⟨B, 0, none⟩ = some v → W'.cell? ⟨B, 0, none⟩ = some v

theorem bit_test (x k : Nat) (hx : x < 18446744073709551616) : bits .and .u64 ((x : Int) / 2 ^ k) 1 = if x.testBit k then 1 else 0 := by
  have e : ((x : Int) / 2 ^ k) = ((x / 2 ^ k : Nat) : Int) := by simp
  have h1 := u64_and_nat (x / 2 ^ k) 1 (Nat.lt_of_le_of_lt (Nat.div_le_self _ _) hx) (by omega)
  rw [e]
  refine h1.trans ?_
  rw [nat_mask1, Nat.testBit_eq_decide_div_mod_eq]
  have h2 : x / 2 ^ k % 2 = 0 ∨ x / 2 ^ k % 2 = 1 := by omega
  rcases h2 with h | h <;> simp [h]

set_option maxRecDepth 100000 in
set_option maxHeartbeats 1000000 in
theorem ones1_in (F : Fence) (n : Nat) (hf : F.fn 33) (hro : F.round = none) (hn : 1 ≤ n) (l B x : Nat) (hx : Hid (x < 18446744073709551616)) (J Jx : List Nat → World → Prop)
    (hY : ∀ pre (k : Nat) W, J pre W → pre.length < 64 → YieldAt F (n - 1) Tryd.prog l #[.int .i64 k] W fun e W' =>
      (e = .returned (.bool true) ∧ J (pre ++ [k]) W' ∧ KeepC B W W') ∨ (e = .returned (.bool false) ∧ Jx (pre ++ [k]) W'))
    (W : World) (hB : W.cell? ⟨B, 0, none⟩ = some (.int .u64 x)) (h0 : J [] W) :
    CallsIn F n Tryd.prog 33 #[.func (.yield l) #[] #[], .pointer (some ⟨B, 0, none⟩)] W fun e W' => (∃ v, e = .returned v) ∧
      ((∃ ys, ys = upto x 64 ∧ J ys W') ∨ (∃ pre, pre <+: upto x 64 ∧ Jx pre W')) := by
  refine callsIn_of_wp Tryd.func33 rfl hf ?_ hro
  simp only [Tryd.ntmps33, List.size_toArray, List.length_cons, List.length_nil, Nat.reduceAdd, Nat.reduceSub, Array.replicate_succ, Array.replicate_zero, List.push_toArray, List.append_toArray, List.nil_append, List.cons_append]
  gi_wp2
  gi_loopw [4] (fun i wr => ∃ k : Nat, i = .int .i64 k ∧ k ≤ 64 ∧ wr.cell? ⟨B, 0, none⟩ = some (.int .u64 x) ∧ J (upto x k) wr)
    (fun i _ => 64 - (intOf i).toNat)
  case atStart =>
    exact ⟨0, rfl, by omega, hB, h0⟩
  case round =>
    obtain ⟨k, rfl, hk, hc, hJs⟩ := hrel
    have hlen : (upto x k).length ≤ k := upto_length x k
    by_cases hlt : k < 64
    · obtain ⟨fn, tmps, assign, body, hy, hR⟩ := hY (upto x k) k wr hJs (by omega)
      have hbt := bit_test x k hx.out
      cases hb : x.testBit k with
      | true =>
        rw [hb, if_pos rfl] at hbt
        have hP := upto_yes hb
        have HP : Hid (upto x (k + 1) = upto x k ++ [k]) := hP
        clear hP hb
        gi_wp2
        refine hR.mono ?_
        rintro e W3 (⟨rfl, hJ3, hk3⟩ | ⟨rfl, hJx3⟩)
        · have hc3 := hk3 _ hc
          gi_wp2
          go_roundw
          case rel => exact ⟨k + 1, by go_num, by omega, hc3, by rw [HP.out]; exact hJ3⟩
          case measure => simp [intOf]; omega
        · gi_wp2
          refine bodyPost_ret (results_none rfl _ _ _) rfl ?_
          exact ⟨⟨_, rfl⟩, .inr ⟨upto x k ++ [k], by rw [← HP.out]; exact upto_prefix x (by omega), hJx3⟩⟩
      | false =>
        rw [hb, if_neg (by simp)] at hbt
        have HP : Hid (upto x (k + 1) = upto x k) := upto_no hb
        clear hb hR hy
        gi_wp2
        refine ⟨fun _ h => (by cases h), ?_⟩
        gi_wp2
        go_roundw
        case rel => exact ⟨k + 1, by go_num, by omega, hc, by rw [HP.out]; exact hJs⟩
        case measure => simp [intOf]; omega
    · gi_wp2
      go_end0
      obtain rfl : k = 64 := by omega
      exact ⟨⟨_, rfl⟩, .inl ⟨_, rfl, hJs⟩⟩

set_option maxHeartbeats 1000000 in
theorem ones_in (F : Fence) (n : Nat) (h5 : F.fn 31) (hro : F.round = none) (x : Int) (w : World) :
    CallsIn F n Tryd.prog 31 #[.int .u64 x] w fun e w' => e = .returned (.func (.func 33) #[] #[.pointer (some ⟨w.heap.size, 0, none⟩)]) ∧ w' = w.alloc (.cells #[.int .u64 x] 22) := by
  refine callsIn_of_wp Tryd.func31 rfl h5 ?_ hro
  simp only [Tryd.ntmps31, List.size_toArray, List.length_cons, List.length_nil, Nat.reduceAdd, Nat.reduceSub, Array.replicate_succ, Array.replicate_zero, List.push_toArray, List.append_toArray, List.nil_append, List.cons_append]
  gi_wp2
  go_ret
  exact ⟨rfl, rfl⟩

theorem ones_stops (F : Fence) (n : Nat) (hf : F.fn 33) (hro : F.round = none) (hn : 1 ≤ n) (B x : Nat) (hx : Hid (x < 18446744073709551616)) (w : World) (hB : B < w.heap.size)
    (hc : w.cell? ⟨B, 0, none⟩ = some (.int .u64 x)) :
    SeqStopsK F n Tryd.prog 33 #[.pointer (some ⟨B, 0, none⟩)] (fun k : Nat => #[Value.int .i64 k]) (KeepC B) (fun ys => ys = upto x 64) (fun pre => pre <+: upto x 64) 64 w := fun l J Jx W hW _ _ hY h0 =>
  ones1_in F n hf hro hn l B x hx J Jx hY W ((hW.cell (p := ⟨B, 0, none⟩) hB).trans hc) h0

theorem keepC_t {B : Nat} {a b c : World} (h : KeepC B a b) (k : KeepC B b c) : KeepC B a c := fun v hv => k v (h v hv)
theorem keepC_b {B : Nat} {w : World} (_hB : B < w.heap.size) (W : World) (l : Nat) (o o' : Obj) (_hl : w.heap.size ≤ l) (h : W.heap[l]? = some o) (ho : o.isCells = false) (_ : o.isWalk = false) : KeepC B W (W.putObj l o') :=
  fun _ hv => cell_kept hv (grownBy_putObj' W l o') (fun r e => by cases e; exact ⟨o, h, ho⟩)
theorem keepC_set {B b : Nat} (W : World) (u : Value) (h : b ≠ B) : KeepC B W (W.setCell ⟨b, 0, none⟩ u) :=
  fun _ hv => (World.cell?_setCell_other W ⟨b, 0, none⟩ ⟨B, 0, none⟩ u (by intro e; injection e; contradiction)).trans hv

theorem cell_of_box_l {W : World} {B : Nat} {v : Value} {t : TypeId} (h : W.heap[B]? = some (.cells #[v] t (0, 0))) : W.cell? ⟨B, 0, none⟩ = some v ∧ W.frozen? ⟨B, 0, none⟩ = false := by
  constructor <;> simp [World.cell?, World.frozen?, h]
theorem cell_new_l (W : World) (v : Value) (t : TypeId) : (W.alloc (.cells #[v] t)).cell? ⟨W.heap.size, 0, none⟩ = some v ∧ (W.alloc (.cells #[v] t)).frozen? ⟨W.heap.size, 0, none⟩ = false :=
  cell_of_box_l (World.alloc_heap_new W _)
theorem cell_alloc_l {W : World} {a : Addr} {v : Value} (o : Obj) (h : W.cell? a = some v) : (W.alloc o).cell? a = some v := cell_kept h (World.grownBy_alloc W o none) (fun r e => by cases e)
theorem frozen_alloc_l {W : World} {a : Addr} {v : Value} (o : Obj) (h : W.cell? a = some v) (hf : W.frozen? a = false) : (W.alloc o).frozen? a = false := (frozen_kept h (World.grownBy_alloc W o none) (fun r e => by cases e)).trans hf

set_option maxRecDepth 100000 in
set_option maxHeartbeats 2000000 in
/-- COUNT: as many as are set. -/
theorem count_in (F : Fence) (n : Nat) (h3 : F.fn 22) (h5 : F.fn 31) (h6 : F.fn 33) (hro : F.round = none) (hn : 3 ≤ n) (x : Nat) (hx : Hid (x < 18446744073709551616)) (w : World) :
    CallsIn F n Tryd.prog 22 #[.int .u64 x] w fun e W' => e = .returned (.int .i64 ((upto x 64).length : Nat)) ∧ Below w.heap.size w W' := by
  have h1 : 1 ≤ n := by omega
  refine callsIn_of_wp_marks Tryd.func22 rfl h3 ?_ hro
  simp only [Tryd.ntmps22, List.size_toArray, List.length_cons, List.length_nil, Nat.reduceAdd, Nat.reduceSub, Array.replicate_succ, Array.replicate_zero, List.push_toArray, List.append_toArray, List.nil_append, List.cons_append]
  gi_wp2_with (gi_at_call 31; refine (ones_in F (n - 1) h5 hro _ _).mono ?_; rintro e w' ⟨rfl, rfl⟩)
  have hs := cell_new_l w (.int .i64 0) 3
  have hb := cell_new_l (w.alloc (.cells #[.int .i64 0] 3)) (.int .u64 x) 22
  rw [World.size_alloc] at hb
  have hB0 : Below w.heap.size w ((w.alloc (.cells #[.int .i64 0] 3)).alloc (.cells #[.int .u64 x] 22)) := ((Below.refl _ w).alloc (Nat.le_refl _) _).alloc (by simp) _
  refine wpIn_rangeFunc_ownF hro h1 (gf := 33) (lb := #[.pointer (some ⟨w.heap.size + 1, 0, none⟩)]) rfl h6 (enters_of Tryd.func33 (by kernel_rfl) rfl)
    (ones_stops F (n - 1) h6 hro (by omega) (w.heap.size + 1) x hx _ (by simp) hb.1) keepC_t (keepC_b (by simp)) (Below.refl _ _) (fun _ => rfl)
    (fun pre W => (W.cell? ⟨w.heap.size, 0, none⟩ = some (.int .i64 (pre.length : Nat)) ∧ W.frozen? ⟨w.heap.size, 0, none⟩ = false) ∧ Below w.heap.size w W)
    (fun _ _ _ => False)
    (OwnFrom.and (Own.from (fun s A B row hs hg hr => ⟨cell_kept hs.1 hg hr, (frozen_kept hs.1 hg hr).trans hs.2⟩) _) (ownFrom_below (Nat.le_refl _) (by simp; omega)))
    (fun _ _ _ _ _ hs _ _ => hs)
    ⟨⟨cell_alloc_l _ hs.1, frozen_alloc_l _ hs.1 hs.2⟩, hB0⟩
    (fun k => { tmps := #[.int .u64 x, undef, .int .i64 0, .pointer (some ⟨w.heap.size, 0, none⟩), .int .u64 x, .func (.func 33) #[] #[.pointer (some ⟨w.heap.size + 1, 0, none⟩)], .int .i64 k, undef, undef, undef], defers := [] }) ?assign ?body ?done ?stop
  case assign =>
    intro l k W K hK
    gi_wp2
    simpa using hK
  case body =>
    rintro l pre k W ⟨⟨hc, hf⟩, hB⟩ hlen
    gi_wp2
    exact ⟨KeepsOthers.setCell _ _ _, keepC_set _ _ (by omega), ⟨by rw [World.cell?_setCell_same' _ _ _ (by rw [hc]; rfl)]; simp, by rw [World.frozen?_setCell]; exact hf⟩, hB.setCell (p := ⟨w.heap.size, 0, none⟩) (Nat.le_refl _) _⟩
  case done =>
    rintro D ys W hD rfl ⟨⟨hc, _⟩, hB⟩ hK
    gi_wp2
    refine ⟨by simp, .inl ⟨_, _, rfl, run_takeDeferred hK, ?_⟩⟩
    exact ⟨_, results_tmp rfl _ _ _, rfl, hB.trans (belowK_b (w := w) (Nat.le_refl _) W D _ _ (by simp at hD; omega) hK rfl rfl)⟩
  case stop =>
    rintro D c pre W _ _ h _
    exact h.elim

theorem count_any (x : Nat) (hx : x < 18446744073709551616) (w : World) :
    Calls Tryd.prog 22 #[.int .u64 x] w fun e W' => e = .returned (.int .i64 ((upto x 64).length : Nat)) ∧ Below w.heap.size w W' :=
  (callsIn_wide (n := 3)).1 (count_in Fence.wide 3 trivial trivial trivial rfl (by omega) x hx w)

/-- The first of a list that is not below a. -/
def firstGe (a : Int) : List Nat → Option Nat
  | [] => none
  | k :: r => if a ≤ (k : Int) then some k else firstGe a r
theorem firstGe_none {a : Int} {l : List Nat} (h : ∀ k ∈ l, (k : Int) < a) : firstGe a l = none := by
  induction l with
  | nil => rfl
  | cons k r ih =>
    have hk := h k (by simp)
    rw [firstGe, if_neg (by omega)]
    exact ih fun j hj => h j (by simp [hj])
theorem firstGe_append {a : Int} {l r : List Nat} (h : ∀ k ∈ l, (k : Int) < a) : firstGe a (l ++ r) = firstGe a r := by
  induction l with
  | nil => rfl
  | cons k s ih =>
    have hk := h k (by simp)
    rw [List.cons_append, firstGe, if_neg (by omega)]
    exact ih fun j hj => h j (by simp [hj])
def nextI (x : Nat) (a : Int) : Int := ((firstGe a (upto x 64)).getD 0 : Nat)
def nextB (x : Nat) (a : Int) : Bool := (firstGe a (upto x 64)).isSome

set_option maxRecDepth 100000 in
set_option maxHeartbeats 2000000 in
/-- NEXT: the first one that is not below a. -/
theorem next_in (F : Fence) (n : Nat) (h4 : F.fn 21) (h5 : F.fn 31) (h6 : F.fn 33) (hro : F.round = none) (hn : 3 ≤ n) (x : Nat) (hx : Hid (x < 18446744073709551616)) (a : Int) (w : World) :
    CallsIn F n Tryd.prog 21 #[.int .u64 x, .int .i64 a] w fun e W' => e = .returned (.tuple #[.int .i64 (nextI x a), .bool (nextB x a)]) ∧ Below w.heap.size w W' := by
  have h1 : 1 ≤ n := by omega
  refine callsIn_of_wp_marks Tryd.func21 rfl h4 ?_ hro
  simp only [Tryd.ntmps21, List.size_toArray, List.length_cons, List.length_nil, Nat.reduceAdd, Nat.reduceSub, Array.replicate_succ, Array.replicate_zero, List.push_toArray, List.append_toArray, List.nil_append, List.cons_append]
  gi_wp2_with (gi_at_call 31; refine (ones_in F (n - 1) h5 hro _ _).mono ?_; rintro e w' ⟨rfl, rfl⟩)
  have c0 := cell_new_l w (.int .i64 a) 3
  have c1 := cell_new_l (w.alloc (.cells #[.int .i64 a] 3)) (.int .i64 0) 3
  have c2 := cell_new_l ((w.alloc (.cells #[.int .i64 a] 3)).alloc (.cells #[.int .i64 0] 3)) (.bool false) 4
  have c3 := cell_new_l (((w.alloc (.cells #[.int .i64 a] 3)).alloc (.cells #[.int .i64 0] 3)).alloc (.cells #[.bool false] 4)) (.int .u64 x) 22
  simp only [World.size_alloc] at c1 c2 c3
  have hB0 : Below w.heap.size w ((((w.alloc (.cells #[.int .i64 a] 3)).alloc (.cells #[.int .i64 0] 3)).alloc (.cells #[.bool false] 4)).alloc (.cells #[.int .u64 x] 22)) := ((((Below.refl _ w).alloc (Nat.le_refl _) _).alloc (by simp) _).alloc (by simp; omega) _).alloc (by simp; omega) _
  refine wpIn_rangeFunc_ownF hro h1 (gf := 33) (lb := #[.pointer (some ⟨w.heap.size + 1 + 1 + 1, 0, none⟩)]) rfl h6 (enters_of Tryd.func33 (by kernel_rfl) rfl)
    (ones_stops F (n - 1) h6 hro (by omega) (w.heap.size + 1 + 1 + 1) x hx _ (by simp) c3.1) keepC_t (keepC_b (by simp)) (Below.refl _ _) (fun _ => rfl)
    (fun pre W => ((∀ y ∈ pre, (y : Int) < a) ∧ W.cell? ⟨w.heap.size, 0, none⟩ = some (.int .i64 a) ∧ (W.cell? ⟨w.heap.size + 1, 0, none⟩ = some (.int .i64 0) ∧ W.frozen? ⟨w.heap.size + 1, 0, none⟩ = false) ∧ W.cell? ⟨w.heap.size + 1 + 1, 0, none⟩ = some (.bool false) ∧ W.frozen? ⟨w.heap.size + 1 + 1, 0, none⟩ = false) ∧ Below w.heap.size w W)
    (fun c pre W => (c = .ret ∧ (∃ (q : List Nat) (k : Nat), pre = q ++ [k] ∧ (∀ y ∈ q, (y : Int) < a) ∧ a ≤ (k : Int) ∧ W.cell? ⟨w.heap.size + 1, 0, none⟩ = some (.int .i64 k)) ∧ W.cell? ⟨w.heap.size + 1 + 1, 0, none⟩ = some (.bool true)) ∧ Below w.heap.size w W)
    (OwnFrom.and (Own.from (fun s A B row hs hg hr => ⟨hs.1, cell_kept hs.2.1 hg hr, ⟨cell_kept hs.2.2.1.1 hg hr, (frozen_kept hs.2.2.1.1 hg hr).trans hs.2.2.1.2⟩, cell_kept hs.2.2.2.1 hg hr, (frozen_kept hs.2.2.2.1 hg hr).trans hs.2.2.2.2⟩) _) (ownFrom_below (Nat.le_refl _) (by simp; omega)))
    (fun c => OwnFrom.and (Own.from (fun s A B row hs hg hr => by obtain ⟨hc, ⟨q, k, e1, e2, e3, e4⟩, e5⟩ := hs; exact ⟨hc, ⟨q, k, e1, e2, e3, cell_kept e4 hg hr⟩, cell_kept e5 hg hr⟩) _) (ownFrom_below (Nat.le_refl _) (by simp; omega)))
    ⟨⟨by simp, cell_alloc_l _ (cell_alloc_l _ (cell_alloc_l _ c0.1)), ⟨cell_alloc_l _ (cell_alloc_l _ c1.1), frozen_alloc_l _ (cell_alloc_l _ c1.1) (frozen_alloc_l _ c1.1 c1.2)⟩, cell_alloc_l _ c2.1, frozen_alloc_l _ c2.1 c2.2⟩, hB0⟩
    (fun k => { tmps := #[.int .u64 x, .int .i64 a, undef, .pointer (some ⟨w.heap.size, 0, none⟩), .pointer (some ⟨w.heap.size + 1, 0, none⟩), .pointer (some ⟨w.heap.size + 1 + 1, 0, none⟩), .int .i64 k, .int .u64 x, .func (.func 33) #[] #[.pointer (some ⟨w.heap.size + 1 + 1 + 1, 0, none⟩)], .int .i64 k, undef, undef, undef, undef], defers := [] }) ?assign ?body ?done ?stop
  case assign =>
    intro l k W K hK
    gi_wp2
    exact hK
  case body =>
    rintro l pre k W ⟨⟨hp, hca, ⟨hc1, hf1⟩, hc2, hf2⟩, hB⟩ _
    by_cases hge : a ≤ (k : Int)
    · gi_wp2
      refine ⟨(KeepsOthers.setCell W ⟨w.heap.size + 1, 0, none⟩ (.int .i64 k)).trans (KeepsOthers.setCell _ ⟨w.heap.size + 1 + 1, 0, none⟩ (.bool true)), ⟨rfl, ⟨pre, k, rfl, hp, hge, ?_⟩, ?_⟩, (hB.setCell (p := ⟨w.heap.size + 1, 0, none⟩) (by simp) _).setCell (p := ⟨w.heap.size + 1 + 1, 0, none⟩) (by simp; omega) _⟩
      · exact (World.cell?_setCell_other _ _ _ _ (by intro e; injection e; omega)).trans (World.cell?_setCell_same' _ _ _ (by rw [hc1]; rfl))
      · exact World.cell?_setCell_same' _ _ _ (by rw [World.cell?_setCell_other _ _ _ _ (by intro e; injection e; omega), hc2]; rfl)
    · gi_wp2
      exact ⟨KeepsOthers.refl _, fun _ h => h, ⟨fun y hy => (List.mem_append.1 hy).elim (hp y) (fun e => by simp at e; subst e; omega), hca, ⟨hc1, hf1⟩, hc2, hf2⟩, hB⟩
  case done =>
    rintro D ys W hD rfl ⟨⟨hp, _, ⟨hc1, hf1⟩, hc2, hf2⟩, hB⟩ hK
    gi_wp2
    have hK' := ((KeepsOthers.setCell W ⟨w.heap.size + 1, 0, none⟩ (.int .i64 0)).trans (KeepsOthers.setCell _ ⟨w.heap.size + 1 + 1, 0, none⟩ (.bool false))).same D _ hK rfl
    refine ⟨by simp, .inl ⟨_, _, rfl, run_takeDeferred hK', ?_⟩⟩
    have e1 : ((W.setCell ⟨w.heap.size + 1, 0, none⟩ (.int .i64 0)).setCell ⟨w.heap.size + 1 + 1, 0, none⟩ (.bool false)).cell? ⟨w.heap.size + 1, 0, none⟩ = some (.int .i64 0) :=
      (World.cell?_setCell_other _ _ _ _ (by intro e; injection e; omega)).trans (World.cell?_setCell_same' _ _ _ (by rw [hc1]; rfl))
    have e2 : ((W.setCell ⟨w.heap.size + 1, 0, none⟩ (.int .i64 0)).setCell ⟨w.heap.size + 1 + 1, 0, none⟩ (.bool false)).cell? ⟨w.heap.size + 1 + 1, 0, none⟩ = some (.bool false) :=
      World.cell?_setCell_same' _ _ _ (by rw [World.cell?_setCell_other _ _ _ _ (by intro e; injection e; omega), hc2]; rfl)
    have hc5 := cell_kept e1 (grownBy_putObj' _ D (.deferred none)) (fun r e => by cases e; exact ⟨_, hK', rfl⟩)
    have hc6 := cell_kept e2 (grownBy_putObj' _ D (.deferred none)) (fun r e => by cases e; exact ⟨_, hK', rfl⟩)
    refine ⟨.tuple #[.int .i64 0, .bool false], ?_, ?_, ((hB.setCell (p := ⟨w.heap.size + 1, 0, none⟩) (by simp) _).setCell (p := ⟨w.heap.size + 1 + 1, 0, none⟩) (by simp; omega) _).trans (belowK_b (w := w) (Nat.le_refl _) _ D _ _ (by simp at hD; omega) hK' rfl rfl)⟩
    · simp [results, Tryd.f21, go_sem, hc5, hc6]
    · have hz := firstGe_none hp
      simp [nextI, nextB, hz]
  case stop =>
    rintro D c pre W hD hpre ⟨⟨rfl, ⟨q, k, rfl, hq, hk, hc1⟩, hc2⟩, hB⟩ hK
    gi_wp2
    refine ⟨by simp, .inl ⟨_, _, rfl, run_takeDeferred hK, ?_⟩⟩
    have hc5 := cell_kept hc1 (grownBy_putObj' _ D (.deferred none)) (fun r e => by cases e; exact ⟨_, hK, rfl⟩)
    have hc6 := cell_kept hc2 (grownBy_putObj' _ D (.deferred none)) (fun r e => by cases e; exact ⟨_, hK, rfl⟩)
    refine ⟨.tuple #[.int .i64 k, .bool true], ?_, ?_, hB.trans (belowK_b (w := w) (Nat.le_refl _) W D _ _ (by simp at hD; omega) hK rfl rfl)⟩
    · simp [results, Tryd.f21, go_sem, hc5, hc6]
    · obtain ⟨r, hr⟩ := hpre
      have hz : firstGe a (upto x 64) = some k := by
        rw [← hr, List.append_assoc, firstGe_append hq]
        simp [firstGe, hk]
      simp [nextI, nextB, hz]

theorem next_any (x : Nat) (hx : x < 18446744073709551616) (a : Int) (w : World) :
    Calls Tryd.prog 21 #[.int .u64 x, .int .i64 a] w fun e W' => e = .returned (.tuple #[.int .i64 (nextI x a), .bool (nextB x a)]) ∧ Below w.heap.size w W' :=
  (callsIn_wide (n := 3)).1 (next_in Fence.wide 3 trivial trivial trivial rfl (by omega) x hx a w)

set_option maxHeartbeats 400000 in
theorem low_any (x : Nat) (hx : Hid (x < 18446744073709551616)) (w : World) :
    Calls Tryd.prog 17 #[.int .u64 x] w fun e W' => e = .returned (.tuple #[.int .i64 (nextI x 0), .bool (nextB x 0)]) ∧ Below w.heap.size w W' := by
  go_enter Tryd.func17, Tryd.ntmps17
  go_wp2_with (go_at_call 21; refine (next_any x hx.out 0 _).mono ?_; rintro e w' ⟨rfl, hb⟩)
  go_ret2
  exact ⟨rfl, hb⟩
end Go.Proofs.YtdngpjgpomjncaaDoor
