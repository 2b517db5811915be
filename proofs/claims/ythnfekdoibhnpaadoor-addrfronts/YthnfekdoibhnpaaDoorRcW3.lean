/- What Text does. -/
import Derived.Test.YthnfekdoibhnpaaDoorRcW1
import Derived.Laws.RangeAny
import Derived.Laws.BytesString
import Derived.Laws.Cells
namespace Go.Proofs.YthnfekdoibhnpaaDoor.Rt
open Go.RowKit

def signs : ByteArray := ⟨#[114, 119, 103, 99]⟩
def worth (k : Nat) : Nat := 2 ^ k
def tabCells : Array Value := #[.int .i64 1, .int .i64 2, .int .i64 4, .int .i64 8]
/-- The sign at the place k. -/
def sgn (k : Nat) : Int := (signs.data.getD k 0).toNat
def sg (r k : Nat) : Int := if bits .and .i64 (r : Int) (worth k : Nat) == 0 then 45 else sgn k
def textL (r : Nat) : List Int := (List.range 4).map (sg r)
def textN (r : Nat) : ByteArray := (textL r).foldl (fun s n => s.push (UInt8.ofNat n.toNat)) ByteArray.empty

/-- A world whose block b is turned into another one. -/
def turn (w : World) (b : Nat) (o : Obj) : World := { w with heap := w.heap.setIfInBounds b o }
theorem turn_size (w : World) (b : Nat) (o : Obj) : (turn w b o).heap.size = w.heap.size := by simp [turn]
theorem turn_at (w : World) (b : Nat) (o : Obj) (h : b < w.heap.size) : (turn w b o).heap[b]? = some o := by simp [turn, h]
theorem turn_other (w : World) (b k : Nat) (o : Obj) (h : k ≠ b) : (turn w b o).heap[k]? = w.heap[k]? := by
  simp [turn, Array.getElem?_setIfInBounds_ne (Ne.symm h)]
theorem turn_grown (w : World) (b : Nat) (o : Obj) : w.grownBy (turn w b o) (some b) :=
  ⟨rfl, rfl, rfl, by rw [turn_size]; exact Nat.le_refl _, fun k _ hne => turn_other w b k o (fun e => hne (by rw [e]))⟩
theorem turn_below {B : Nat} {a w : World} (h : Below B a w) (b : Nat) (hb : B ≤ b) (hB : B ≤ w.heap.size) (o : Obj) : Below B a (turn w b o) :=
  h.grown (turn_grown w b o) hB (fun k e => by cases e; exact hb)

/-- NEXT, WHEREVER THE STRING'S ITERATOR LIES. -/
theorem run_next_at {P : Program} (w : World) (b : Nat) (s : ByteArray) (pos : Nat) (ty : TypeId) (hb : w.heap[b]? = some (.stringIter s pos)) (h : pos < s.size) :
    (Instr.next (.pointer (some ⟨b, 0, none⟩)) true ty).run P w =
      .ok (.tuple #[.bool true, .int .i64 pos, .int .i32 (Utf8.decode s pos).1]) (turn w b (.stringIter s (pos + (Utf8.decode s pos).2))) := by
  simp only [Instr.next, getObj, setObj, Sem.run_bind, Sem.run, hb, Result.andThen, h, if_true]
  simp [goInt, turn]
theorem run_next_at_end {P : Program} (w : World) (b : Nat) (s : ByteArray) (pos : Nat) (ty : TypeId) (hb : w.heap[b]? = some (.stringIter s pos)) (h : ¬ pos < s.size) :
    (Instr.next (.pointer (some ⟨b, 0, none⟩)) true ty).run P w = .ok (.tuple #[.bool false]) w := by
  simp [Instr.next, getObj, Sem.run, hb, h]

def row4 : Array Value := #[.int .u8 0, .int .u8 0, .int .u8 0, .int .u8 0]
theorem info5 : (Tryd.prog.info? 5).map (fun i => (i.zero, i.size, i.bytes)) = some (some (.int .u8 0), 1, 1) := by kernel_rfl
/-- The decoded signs. -/
theorem next_sign (w : World) (b k : Nat) (ty : TypeId) (hk : k < 4) (hb : w.heap[b]? = some (.stringIter signs k)) :
    (Instr.next (.pointer (some ⟨b, 0, none⟩)) true ty).run Tryd.prog w = .ok (.tuple #[.bool true, .int .i64 k, .int .i32 (sgn k)]) (turn w b (.stringIter signs (k + 1))) := by
  rw [run_next_at w b signs k ty hb hk]
  have : k = 0 ∨ k = 1 ∨ k = 2 ∨ k = 3 := by omega
  rcases this with rfl | rfl | rfl | rfl <;> rfl
theorem next_done (w : World) (b : Nat) (ty : TypeId) (hb : w.heap[b]? = some (.stringIter signs 4)) :
    (Instr.next (.pointer (some ⟨b, 0, none⟩)) true ty).run Tryd.prog w = .ok (.tuple #[.bool false]) w :=
  run_next_at_end w b signs 4 ty hb (by decide)

/-- The round's relation: k signs are written. -/
structure Inv (w : World) (r k : Nat) (wr : World) : Prop where
  low : Below w.heap.size w wr
  two : w.heap.size + 1 < wr.heap.size
  it : wr.heap[w.heap.size + 1]? = some (.stringIter signs k)
  own : wr.ownsRow w.heap.size 5 1 (.slice (some ⟨w.heap.size, 0, none⟩) k 4) k (((List.range k).map (sg r)).map (Value.int .u8))
theorem inv_start (w : World) (r : Nat) : Inv w r 0 ((w.alloc (.cells row4 5)).iter signs 0) := {
  low := ((Below.refl _ w).alloc (Nat.le_refl _) _).alloc (by simp) _
  two := by simp [World.iter]
  it := by
    have := World.iter_heap (w.alloc (.cells row4 5)) signs 0
    simpa using this
  own := (World.ownsRow_made w row4 4 (Nat.le_refl _) (by decide) rfl).alloc _ }
theorem inv_turn {w wr : World} {r k : Nat} (h : Inv w r k wr) (o : Obj) :
    (turn wr (w.heap.size + 1) o).ownsRow w.heap.size 5 1 (.slice (some ⟨w.heap.size, 0, none⟩) k 4) k (((List.range k).map (sg r)).map (Value.int .u8)) :=
  h.own.kept (turn_grown _ _ _) (.inr (by simp [Value.ownBlock]))
theorem inv_step {w wr w1 : World} {r k : Nat} {u : Obj} (h : Inv w r k wr)
    (ho : w1.ownsRow w.heap.size 5 1 (.slice (some ⟨w.heap.size, 0, none⟩) (k + 1) 4) (k + 1) (((List.range k).map (sg r)).map (Value.int .u8) ++ [.int .u8 (sg r k)]))
    (hg : ((turn wr (w.heap.size + 1) (.stringIter signs (k + 1))).alloc u).grownBy w1 (some w.heap.size)) : Inv w r (k + 1) w1 := {
  low := ((turn_below h.low _ (by omega) (by have := h.two; omega) _).alloc (by rw [turn_size]; have := h.two; omega) _).grown hg (by simp [turn_size]; have := h.two; omega) (fun k e => by cases e; exact Nat.le_refl _)
  two := Nat.lt_of_lt_of_le (by simp [turn_size]; have := h.two; omega) hg.size
  it := by
    have h2 := h.two
    rw [hg.block _ (by simp [turn_size]; omega) (by simp)]
    rw [Below.heap_alloc _ _ _ (by rw [turn_size]; exact h2)]
    exact turn_at _ _ _ h2
  own := by simpa [List.range_succ] using ho }

theorem sgn_lt (k : Nat) (h : k < 4) : 0 ≤ sgn k ∧ sgn k < 128 := by
  have : k = 0 ∨ k = 1 ∨ k = 2 ∨ k = 3 := by omega
  rcases this with rfl | rfl | rfl | rfl <;> decide

end Go.Proofs.YthnfekdoibhnpaaDoor.Rt
