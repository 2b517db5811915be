/- What Text does: sixteen digits, the greatest first. -/
import Derived.Test.YtdngpjgpomjncaaDoorW3
import Derived.Laws.BytesString
import Derived.Laws.Cells
import Derived.RangeFuncFrom
namespace Go.Proofs.YtdngpjgpomjncaaDoor
open Go.RowKit

def digN (x k : Nat) : Nat := x / 2 ^ (60 - 4 * k) % 16
theorem digN_lt (x k : Nat) : digN x k < 16 := Nat.mod_lt _ (by omega)
def textL (x : Nat) : List Int := (List.range 16).map fun k => dig (digN x k)
def textS (x : Nat) : ByteArray := (textL x).foldl (fun r n => r.push (UInt8.ofNat n.toNat)) ByteArray.empty

def zero16 : Array Value := #[.int .u8 0, .int .u8 0, .int .u8 0, .int .u8 0, .int .u8 0, .int .u8 0, .int .u8 0, .int .u8 0, .int .u8 0, .int .u8 0, .int .u8 0, .int .u8 0, .int .u8 0, .int .u8 0, .int .u8 0, .int .u8 0]
theorem zero16_at (k : Nat) (hk : k < 16) : zero16[k]? = some (.int .u8 0) := by
  have : k = 0 ∨ k = 1 ∨ k = 2 ∨ k = 3 ∨ k = 4 ∨ k = 5 ∨ k = 6 ∨ k = 7 ∨ k = 8 ∨ k = 9 ∨ k = 10 ∨ k = 11 ∨ k = 12 ∨ k = 13 ∨ k = 14 ∨ k = 15 := by omega
  rcases this with rfl | rfl | rfl | rfl | rfl | rfl | rfl | rfl | rfl | rfl | rfl | rfl | rfl | rfl | rfl | rfl <;> rfl

theorem cell_at_block {W : World} {B : Nat} {cs : Array Value} {t : TypeId} (h : W.heap[B]? = some (.cells cs t (0, 0))) (j : Nat) {v : Value} (hv : cs[j]? = some v) : W.cell? ⟨B, j, none⟩ = some v ∧ W.frozen? ⟨B, j, none⟩ = false := by
  constructor
  · simp [World.cell?, h, hv]
  · simp [World.frozen?, h]

theorem get_dig (x k : Nat) (w : World) (hx : x < 18446744073709551616) (hk : k < 16) :
    Calls Tryd.prog 11 #[.int .u64 x, .int .i64 (64 - 4 * ((k : Int) + 1)), .int .i64 4] w fun e w' => e = .returned (.int .u64 (digN x k)) ∧ w' = w := by
  have h := get_yes x (60 - 4 * k) 4 w hx (by omega) (by omega)
  have e : ((60 - 4 * k : Nat) : Int) = 64 - 4 * ((k : Int) + 1) := by omega
  rw [e] at h
  exact h

theorem text_conv (w : World) (b : Nat) (ns : List Int) (hl : ns.length = 16) (h : ∀ j, j < 16 → w.cell? ⟨b, j, none⟩ = some (.int .u8 (ns.getD j 0))) :
    (convert 53 9 (.slice (some ⟨b, 0, none⟩) 16 16)).run Tryd.prog w = .ok (.string (ns.foldl (fun r n => r.push (UInt8.ofNat n.toNat)) ByteArray.empty)) w := by
  rw [run_convert_bytes_string w 53 9 5 _ _ _ Tryd.underlying53 Tryd.underlying5 Tryd.underlying9]
  refine run_bytesToString w _ 16 16 ns ?_
  have := run_loadCells_list (P := Tryd.prog) (w := w) ⟨b, 0, none⟩ (ns.map (Value.int .u8)) (fun j v hv => by
    rw [List.getElem?_map, Option.map_eq_some_iff] at hv
    obtain ⟨z, hz, rfl⟩ := hv
    have hj : j < 16 := by rw [← hl]; exact (List.getElem?_eq_some_iff.1 hz).1
    have := h j hj
    rw [List.getD, hz] at this
    by_cases e : j = 0
    · subst e; simpa [Addr.add] using this
    · simpa [Addr.add, e] using this)
  simpa [hl] using this

set_option maxRecDepth 100000 in
set_option maxHeartbeats 2000000 in
theorem text_any (x : Nat) (w : World) (hx : Hid (x < 18446744073709551616)) (hD : Dig w) :
    Calls Tryd.prog 26 #[.int .u64 x] w fun e w' => e = .returned (.string (textS x)) ∧ Below w.heap.size w w' := by
  have HD : Hid (Dig w) := hD
  have hpos := hD.pos
  clear hD
  go_enter Tryd.func26, Tryd.ntmps26
  go_wp2
  go_loopw [5] (fun i wr => ∃ k : Nat, k ≤ 16 ∧ i = .int .i64 k ∧ Below w.heap.size w wr ∧ Hid (∀ j, j < 16 → wr.cell? ⟨w.heap.size, j, none⟩ = some (.int .u8 (if j < k then dig (digN x j) else 0)) ∧ wr.frozen? ⟨w.heap.size, j, none⟩ = false)) (fun i _ => 16 - (intOf i).toNat)
  case atStart =>
    refine ⟨0, by omega, rfl, (Below.refl _ w).alloc (Nat.le_refl _) _, fun j hj => ?_⟩
    exact cell_at_block (World.alloc_heap_new w (.cells zero16 52)) j (zero16_at j hj)
  case round =>
    obtain ⟨k, hk, rfl, hB, hC⟩ := hrel
    by_cases hlt : k < 16
    · obtain ⟨d, hd⟩ : ∃ d, digN x k = d := ⟨_, rfl⟩
      have hd16 : d < 16 := hd ▸ digN_lt x k
      have HG : Hid (∀ W : World, Calls Tryd.prog 11 #[.int .u64 x, .int .i64 (64 - 4 * ((k : Int) + 1)), .int .i64 4] W fun e w' => e = .returned (.int .u64 d) ∧ w' = W) := fun W => hd ▸ get_dig x k W hx.out hlt
      have HDg : Hid (digN x k = d) := hd
      clear hd
      have hcd := (HD.out.below hB).cell d hd16
      have hck := (hC.out k hlt).1
      have hfk := (hC.out k hlt).2
      rw [if_neg (by omega)] at hck
      go_wp2_with (go_at_call 11; refine (HG.out _).mono ?_; rintro e w' ⟨rfl, rfl⟩)
      refine ⟨⟨k + 1, by omega, by go_num, hB.setCell (p := ⟨w.heap.size, k, none⟩) (Nat.le_refl _) _, fun j hj => ⟨?_, by rw [World.frozen?_setCell]; exact (hC.out j hj).2⟩⟩, by simp [intOf]; omega⟩
      by_cases e : j = k
      · subst e
        rw [if_pos (by omega), HDg.out]
        exact World.cell?_setCell_same' _ _ _ (by rw [hck]; rfl)
      · rw [World.cell?_setCell_other _ _ _ _ (by intro h; injection h; omega), (hC.out j hj).1]
        by_cases e2 : j < k
        · rw [if_pos e2, if_pos (by omega)]
        · rw [if_neg e2, if_neg (by omega)]
    · obtain rfl : k = 16 := by omega
      have hcv := text_conv wr w.heap.size (textL x) (by simp [textL]) (fun j hj => by
        rw [(hC.out j hj).1, if_pos hj]
        simp [textL, List.getD, hj])
      go_wp2
      go_ret
      exact ⟨rfl, hB⟩
end Go.Proofs.YtdngpjgpomjncaaDoor
