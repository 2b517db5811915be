/- live answers true (genlive18.py). -/
import Derived.Test.YtmnkbkhfonngeaaHiW9
import Derived.Test.YtmnkbkhfonngeaaHiW10
import Derived.Test.YtmnkbkhfonngeaaHiLd
namespace Go.Proofs.Ytmnkbkhfonngeaa.Hi
open Go.RowKit

abbrev lh1 : Hs := ⟨[⟨0, ⟨3, 0, 0, 0, 0, 0, 0, 0⟩, 1, 0, r0⟩], []⟩
abbrev lh2 : Hs := ⟨[⟨0, ⟨3, 0, 0, 0, 0, 0, 0, 0⟩, 1, 3, ⟨0, 5, 0, false⟩⟩], []⟩
abbrev lh3 : Hs := ⟨[⟨0, ⟨3, 0, 0, 0, 0, 0, 0, 0⟩, 1, 3, ⟨0, 5, 0, false⟩⟩, ⟨0, c0, 4, 0, r0⟩], []⟩
abbrev lh4 : Hs := ⟨[⟨0, ⟨3, 0, 0, 0, 0, 0, 0, 0⟩, 1, 3, ⟨0, 5, 0, false⟩⟩, ⟨0, c0, 4, 0, r0⟩], [⟨0, 0, c0, 2, []⟩]⟩
theorem lv_e1 : invE h0 0 1 = 0 := by decide
theorem lv_h1 : invH h0 0 ⟨3, 0, 0, 0, 0, 0, 0, 0⟩ 1 = lh1 := by rw [invH_of lv_e1]; rfl
theorem lv_p1 : pnI lh1.s 0 = 0 ∧ pnB lh1.s 0 = true := by decide
theorem lv_e2 : ansE lh1 0 3 = 0 := by decide
theorem lv_q2 : pnO lh1.s 0 = some 0 := by decide
theorem lv_h2 : ansH lh1 0 ⟨0, 5, 0, false⟩ 3 = lh2 := by rw [ansH_of lv_e2 lv_q2]; rfl
theorem lv_e3 : invE lh2 0 3 = 8 := by decide
theorem lv_e4 : invE lh2 0 4 = 0 := by decide
theorem lv_h3 : invH lh2 0 c0 4 = lh3 := by rw [invH_of lv_e4]; rfl
theorem lv_e5 : notE lh3 ⟨0, 0, c0, 2, []⟩ = 0 := by decide
theorem lv_h4 : notH lh3 ⟨0, 0, c0, 2, []⟩ = lh4 := by rw [notH_of lv_e5]; rfl
theorem lv_e6 : notE lh4 ⟨0, 0, c0, 2, []⟩ = 2 := by decide
theorem lv_ck : ckE lh4 = 0 := by decide
theorem lv_same : eqH lh3 lh4 = false := by decide
theorem lv_bad : ckE ⟨[], [e0]⟩ = 180 := by decide
theorem lv_short {l : List Ev} (h : ∀ e ∈ l, e.l = []) : ShortE l := fun e he => by rw [h e he]; decide
/-- What stands in each world of the last statement. -/
abbrev SV (W : World) (b8 b10 : Nat) (a : Addr) (sc : Nat) (y8 : Hd) (x10 : Hh) (w : World) : Prop :=
  w.cell? ⟨b8, 0, none⟩ = some (.slice (some a) 2 sc) ∧ w.cell? ⟨b8, 1, none⟩ = some (.slice y8.o y8.n y8.c) ∧ w.cell? ⟨b10, 0, none⟩ = some (.slice x10.s.o x10.s.n x10.s.c) ∧ w.cell? ⟨b10, 1, none⟩ = some (.slice x10.e.o x10.e.n x10.e.c) ∧ w.cell? a = some (.int .i64 0) ∧ w.cell? ⟨a.block, a.off + 1, none⟩ = some (.int .i64 3) ∧ w.cell? ⟨a.block, a.off + 2, none⟩ = some (.int .u64 0) ∧ w.cell? ⟨a.block, a.off + 3, none⟩ = some (.int .u64 0) ∧ w.cell? ⟨a.block, a.off + 4, none⟩ = some (.int .i64 0) ∧ w.cell? ⟨a.block, a.off + 5, none⟩ = some (.int .i64 0) ∧ w.cell? ⟨a.block, a.off + 6, none⟩ = some (.int .i64 0) ∧ w.cell? ⟨a.block, a.off + 7, none⟩ = some (.int .i64 0) ∧ w.cell? ⟨a.block, a.off + 8, none⟩ = some (.int .i64 0) ∧ w.cell? ⟨a.block, a.off + 9, none⟩ = some (.int .i64 1) ∧ w.cell? ⟨a.block, a.off + 10, none⟩ = some (.int .i64 3) ∧ w.cell? ⟨a.block, a.off + 11, none⟩ = some (.int .i64 0) ∧ w.cell? ⟨a.block, a.off + 12, none⟩ = some (.int .i64 5) ∧ w.cell? ⟨a.block, a.off + 13, none⟩ = some (.int .i64 0) ∧ w.cell? ⟨a.block, a.off + 14, none⟩ = some (.bool false) ∧ w.cell? ⟨a.block, a.off + 15, none⟩ = some (.int .i64 0) ∧ w.cell? ⟨a.block, a.off + 15 + 1, none⟩ = some (.int .i64 0) ∧ w.cell? ⟨a.block, a.off + 15 + 2, none⟩ = some (.int .u64 0) ∧ w.cell? ⟨a.block, a.off + 15 + 3, none⟩ = some (.int .u64 0) ∧ w.cell? ⟨a.block, a.off + 15 + 4, none⟩ = some (.int .i64 0) ∧ w.cell? ⟨a.block, a.off + 15 + 5, none⟩ = some (.int .i64 0) ∧ w.cell? ⟨a.block, a.off + 15 + 6, none⟩ = some (.int .i64 0) ∧ w.cell? ⟨a.block, a.off + 15 + 7, none⟩ = some (.int .i64 0) ∧ w.cell? ⟨a.block, a.off + 15 + 8, none⟩ = some (.int .i64 0) ∧ w.cell? ⟨a.block, a.off + 15 + 9, none⟩ = some (.int .i64 4) ∧ w.cell? ⟨a.block, a.off + 15 + 10, none⟩ = some (.int .i64 0) ∧ w.cell? ⟨a.block, a.off + 15 + 11, none⟩ = some (.int .i64 0) ∧ w.cell? ⟨a.block, a.off + 15 + 12, none⟩ = some (.int .i64 0) ∧ w.cell? ⟨a.block, a.off + 15 + 13, none⟩ = some (.int .i64 0) ∧ w.cell? ⟨a.block, a.off + 15 + 14, none⟩ = some (.bool false) ∧ Hid (HasH w ⟨⟨some a, 2, sc⟩, y8⟩ lh3) ∧ Hid (HasH w x10 lh4) ∧ Hid (Below W.heap.size W w)
section
variable {W w w' : World} {b8 b10 sc : Nat} {a : Addr} {y8 : Hd} {x10 : Hh}
theorem sv_keep (hb : Below w.heap.size w w') (h : SV W b8 b10 a sc y8 x10 w) : SV W b8 b10 a sc y8 x10 w' := by
  obtain ⟨h0, h1, h2, h3, h4, h5, h6, h7, h8, h9, h10, h11, h12, h13, h14, h15, h16, h17, h18, h19, h20, h21, h22, h23, h24, h25, h26, h27, h28, h29, h30, h31, h32, h33, h34, h35, h36⟩ := h
  exact ⟨(hb.cell (World.block_lt_of_cell? w _ h0)).trans h0, (hb.cell (World.block_lt_of_cell? w _ h1)).trans h1, (hb.cell (World.block_lt_of_cell? w _ h2)).trans h2, (hb.cell (World.block_lt_of_cell? w _ h3)).trans h3, (hb.cell (World.block_lt_of_cell? w _ h4)).trans h4, (hb.cell (World.block_lt_of_cell? w _ h5)).trans h5, (hb.cell (World.block_lt_of_cell? w _ h6)).trans h6, (hb.cell (World.block_lt_of_cell? w _ h7)).trans h7, (hb.cell (World.block_lt_of_cell? w _ h8)).trans h8, (hb.cell (World.block_lt_of_cell? w _ h9)).trans h9, (hb.cell (World.block_lt_of_cell? w _ h10)).trans h10, (hb.cell (World.block_lt_of_cell? w _ h11)).trans h11, (hb.cell (World.block_lt_of_cell? w _ h12)).trans h12, (hb.cell (World.block_lt_of_cell? w _ h13)).trans h13, (hb.cell (World.block_lt_of_cell? w _ h14)).trans h14, (hb.cell (World.block_lt_of_cell? w _ h15)).trans h15, (hb.cell (World.block_lt_of_cell? w _ h16)).trans h16, (hb.cell (World.block_lt_of_cell? w _ h17)).trans h17, (hb.cell (World.block_lt_of_cell? w _ h18)).trans h18, (hb.cell (World.block_lt_of_cell? w _ h19)).trans h19, (hb.cell (World.block_lt_of_cell? w _ h20)).trans h20, (hb.cell (World.block_lt_of_cell? w _ h21)).trans h21, (hb.cell (World.block_lt_of_cell? w _ h22)).trans h22, (hb.cell (World.block_lt_of_cell? w _ h23)).trans h23, (hb.cell (World.block_lt_of_cell? w _ h24)).trans h24, (hb.cell (World.block_lt_of_cell? w _ h25)).trans h25, (hb.cell (World.block_lt_of_cell? w _ h26)).trans h26, (hb.cell (World.block_lt_of_cell? w _ h27)).trans h27, (hb.cell (World.block_lt_of_cell? w _ h28)).trans h28, (hb.cell (World.block_lt_of_cell? w _ h29)).trans h29, (hb.cell (World.block_lt_of_cell? w _ h30)).trans h30, (hb.cell (World.block_lt_of_cell? w _ h31)).trans h31, (hb.cell (World.block_lt_of_cell? w _ h32)).trans h32, (hb.cell (World.block_lt_of_cell? w _ h33)).trans h33, h34.out.below hb, h35.out.below hb, q_trans h36.out hb⟩
theorem sv_below (h : SV W b8 b10 a sc y8 x10 w) : Below W.heap.size W w := (h.2.2.2.2.2.2.2.2.2.2.2.2.2.2.2.2.2.2.2.2.2.2.2.2.2.2.2.2.2.2.2.2.2.2.2.2).out
theorem sv_h3 (h : SV W b8 b10 a sc y8 x10 w) : HasH w ⟨⟨some a, 2, sc⟩, y8⟩ lh3 := (h.2.2.2.2.2.2.2.2.2.2.2.2.2.2.2.2.2.2.2.2.2.2.2.2.2.2.2.2.2.2.2.2.2.2.1).out
theorem sv_h4 (h : SV W b8 b10 a sc y8 x10 w) : HasH w x10 lh4 := (h.2.2.2.2.2.2.2.2.2.2.2.2.2.2.2.2.2.2.2.2.2.2.2.2.2.2.2.2.2.2.2.2.2.2.2.1).out
theorem sv_alloc {o : Obj} (h : SV W b8 b10 a sc y8 x10 w) : SV W b8 b10 a sc y8 x10 (w.alloc o) := sv_keep (alloc_below w o) h
theorem sv_drew (h : SV W b8 b10 a sc y8 x10 w) : SV W b8 b10 a sc y8 x10 w.drew := sv_keep (Below.refl _ w).drew h
theorem sv_start (h1 : Hb W b8 ⟨⟨some a, 2, sc⟩, y8⟩) (h2 : Hb W b10 x10) (h3 : HasH W ⟨⟨some a, 2, sc⟩, y8⟩ lh3) (h4 : HasH W x10 lh4) : SV W b8 b10 a sc y8 x10 W := by
  obtain ⟨a', e, c⟩ := atS_of h3.s.row 0 (by decide)
  cases e
  obtain ⟨a', e, d⟩ := atS_of h3.s.row 1 (by decide)
  cases e
  rw [Nat.zero_mul, add_zero_addr] at c
  rw [Nat.one_mul, show a.add 15 = ⟨a.block, a.off + 15, none⟩ by simp [Addr.add]] at d
  exact ⟨h1.c0, h1.c1, h2.c0, h2.c1, c.c0, c.c1, c.c2, c.c3, c.c4, c.c5, c.c6, c.c7, c.c8, c.c9, c.c10, c.c11, c.c12, c.c13, c.c14, d.c0, d.c1, d.c2, d.c3, d.c4, d.c5, d.c6, d.c7, d.c8, d.c9, d.c10, d.c11, d.c12, d.c13, d.c14, h3, h4, Below.refl _ _⟩
theorem sv_ldA (h : SV W b8 b10 a sc y8 x10 w) : (Instr.loadAt 50 (.pointer (some a))).run Try.prog w = .ok (.agg #[.int .i64 0, .int .i64 3, .int .u64 0, .int .u64 0, .int .i64 0, .int .i64 0, .int .i64 0, .int .i64 0, .int .i64 0, .int .i64 1, .int .i64 3, .int .i64 0, .int .i64 5, .int .i64 0, .bool false]) w := by
  obtain ⟨a', e, hl⟩ := ldS_of (sv_h3 h).s.row 0 (by decide)
  cases e
  rw [Nat.zero_mul, add_zero_addr] at hl
  exact hl
theorem sv_ldB (h : SV W b8 b10 a sc y8 x10 w) : (Instr.loadAt 50 (.pointer (some ⟨a.block, a.off + 15, none⟩))).run Try.prog w = .ok (.agg #[.int .i64 0, .int .i64 0, .int .u64 0, .int .u64 0, .int .i64 0, .int .i64 0, .int .i64 0, .int .i64 0, .int .i64 0, .int .i64 4, .int .i64 0, .int .i64 0, .int .i64 0, .int .i64 0, .bool false]) w := by
  obtain ⟨a', e, hl⟩ := ldS_of (sv_h3 h).s.row 1 (by decide)
  cases e
  rw [Nat.one_mul, show a.add 15 = ⟨a.block, a.off + 15, none⟩ by simp [Addr.add]] at hl
  exact hl
theorem lv_ahead : Calls Try.prog 19 #[.agg #[.int .i64 0, .int .i64 3, .int .u64 0, .int .u64 0, .int .i64 0, .int .i64 0, .int .i64 0, .int .i64 0, .int .i64 0, .int .i64 1, .int .i64 3, .int .i64 0, .int .i64 5, .int .i64 0, .bool false], .agg #[.int .i64 0, .int .i64 0, .int .u64 0, .int .u64 0, .int .i64 0, .int .i64 0, .int .i64 0, .int .i64 0, .int .i64 0, .int .i64 4, .int .i64 0, .int .i64 0, .int .i64 0, .int .i64 0, .bool false]] w fun e w' => e = .returned (.bool true) ∧ Below w.heap.size w w' := ahead_any ⟨0, ⟨3, 0, 0, 0, 0, 0, 0, 0⟩, 1, 3, ⟨0, 5, 0, false⟩⟩ ⟨0, c0, 4, 0, r0⟩ w
theorem lv_check (h : SV W b8 b10 a sc y8 x10 w) (hs : x10.s.n ≤ 5000) (he : x10.e.n ≤ 5000) : Calls Try.prog 16 #[(.agg #[.slice x10.s.o x10.s.n x10.s.c, .slice x10.e.o x10.e.n x10.e.c])] w fun e w' => e = .returned (.int .i64 0) ∧ Below w.heap.size w w' := by
  have g := check_any x10 lh4 w hs he (sv_h4 h)
  rwa [lv_ck] at g
theorem lv_sm (h : SV W b8 b10 a sc y8 x10 w) (he : y8.n ≤ 5000) : Calls Try.prog 18 #[.agg #[.slice (some a) 2 sc, .slice y8.o y8.n y8.c], (.agg #[.slice x10.s.o x10.s.n x10.s.c, .slice x10.e.o x10.e.n x10.e.c])] w fun e w' => e = .returned (.bool false) ∧ Below w.heap.size w w' := by
  have g := same_any ⟨⟨some a, 2, sc⟩, y8⟩ x10 lh3 lh4 w (by show 2 ≤ 5000; decide) he (lv_short (by simp)) (sv_h3 h) (sv_h4 h)
  rwa [lv_same] at g
theorem lv_has (V : World) : HasH (V.alloc (.cells #[.int .i64 0, .int .i64 0, .int .i64 0, .int .u64 0, .int .u64 0, .int .i64 0, .int .i64 0, .int .i64 0, .int .i64 0, .int .i64 0, .int .i64 0, .slice none 0 0] 34)) ⟨nilH, ⟨some ⟨V.heap.size, 0, none⟩, 1, 1⟩⟩ ⟨[], [e0]⟩ := by
  refine ⟨hasL_nil _ _, [(e0, nilH)], rfl, ⟨rfl, (fun h => by cases h), Nat.le_refl _, one_ev V (e0, nilH) _⟩, fun y hy => ?_⟩
  obtain rfl : y = (e0, nilH) := by simpa using hy
  exact hasL_nil _ _
theorem lv_ck2 : Calls Try.prog 16 #[.agg #[.slice none 0 0, .slice (some ⟨w.heap.size, 0, none⟩) 1 1]] (w.alloc (.cells #[.int .i64 0, .int .i64 0, .int .i64 0, .int .u64 0, .int .u64 0, .int .i64 0, .int .i64 0, .int .i64 0, .int .i64 0, .int .i64 0, .int .i64 0, .slice none 0 0] 34)) fun e w' => e = .returned (.int .i64 180) ∧ Below (w.alloc (.cells #[.int .i64 0, .int .i64 0, .int .i64 0, .int .u64 0, .int .u64 0, .int .i64 0, .int .i64 0, .int .i64 0, .int .i64 0, .int .i64 0, .int .i64 0, .slice none 0 0] 34)).heap.size (w.alloc (.cells #[.int .i64 0, .int .i64 0, .int .i64 0, .int .u64 0, .int .u64 0, .int .i64 0, .int .i64 0, .int .i64 0, .int .i64 0, .int .i64 0, .int .i64 0, .slice none 0 0] 34)) w' := by
  have g := check_any ⟨nilH, ⟨some ⟨w.heap.size, 0, none⟩, 1, 1⟩⟩ ⟨[], [e0]⟩ _ (by show 0 ≤ 5000; decide) (by show 1 ≤ 5000; decide) (lv_has w)
  rwa [lv_bad] at g
end
theorem lv_k1 (W : World) : Calls Try.prog 20 #[.agg #[.slice none 0 0, .slice none 0 0], .int .i64 0, .agg #[.int .i64 3, .int .u64 0, .int .u64 0, .int .i64 0, .int .i64 0, .int .i64 0, .int .i64 0, .int .i64 0], .int .i64 1] W fun e w' => ∃ z : Hh, e = .returned (.tuple #[(.agg #[.slice z.s.o z.s.n z.s.c, .slice z.e.o z.e.n z.e.c]), .int .i64 0]) ∧ HasH w' z lh1 ∧ Below W.heap.size W w' := by
  have g := invoke_any nilX h0 0 ⟨3, 0, 0, 0, 0, 0, 0, 0⟩ 1 W (by decide) (by decide) (lv_short (by simp)) (hasH_nil W)
  rw [lv_e1, lv_h1] at g
  exact g
theorem lv_n {w : World} {x : Hh} {h : Hs} (g : HasH w x h) (h1 : h.s.length ≤ 10) (h2 : h.e.length ≤ 10) : x.s.n ≤ 5000 ∧ x.e.n ≤ 5000 := ⟨by rw [g.s.len]; omega, by rw [g.e.len]; omega⟩
theorem lv_k2 {W : World} {x : Hh} (h : HasH W x lh1) : Calls Try.prog 12 #[(.agg #[.slice x.s.o x.s.n x.s.c, .slice x.e.o x.e.n x.e.c]), .int .i64 0] W fun e w' => e = .returned (.tuple #[.int .i64 0, .bool true]) ∧ Below W.heap.size W w' := by
  have g := pending_any x lh1 0 W (lv_n h (by decide) (by decide)).1 h.s
  rwa [lv_p1.1, lv_p1.2] at g
theorem lv_k3 {W : World} {x : Hh} (h : HasH W x lh1) : Calls Try.prog 21 #[(.agg #[.slice x.s.o x.s.n x.s.c, .slice x.e.o x.e.n x.e.c]), .int .i64 0, .agg #[.int .i64 0, .int .i64 5, .int .i64 0, .bool false], .int .i64 3] W fun e w' => ∃ z : Hh, e = .returned (.tuple #[(.agg #[.slice z.s.o z.s.n z.s.c, .slice z.e.o z.e.n z.e.c]), .int .i64 0]) ∧ HasH w' z lh2 ∧ Below W.heap.size W w' := by
  have g := answer_any x lh1 0 ⟨0, 5, 0, false⟩ 3 W (lv_n h (by decide) (by decide)).1 (lv_n h (by decide) (by decide)).2 (lv_short (by simp)) h
  rw [lv_e2, lv_h2] at g
  exact g
theorem lv_k4 {W : World} {x : Hh} (h : HasH W x lh2) : Calls Try.prog 20 #[(.agg #[.slice x.s.o x.s.n x.s.c, .slice x.e.o x.e.n x.e.c]), .int .i64 0, .agg #[.int .i64 0, .int .u64 0, .int .u64 0, .int .i64 0, .int .i64 0, .int .i64 0, .int .i64 0, .int .i64 0], .int .i64 3] W fun e w' => ∃ z : Hh, e = .returned (.tuple #[(.agg #[.slice z.s.o z.s.n z.s.c, .slice z.e.o z.e.n z.e.c]), .int .i64 8]) ∧ Below W.heap.size W w' := by
  have g := invoke_any x lh2 0 c0 3 W (lv_n h (by decide) (by decide)).1 (lv_n h (by decide) (by decide)).2 (lv_short (by simp)) h
  rw [lv_e3] at g
  exact g.mono fun _ _ ⟨z, e, _, b⟩ => ⟨z, e, b⟩
theorem lv_k5 {W : World} {x : Hh} (h : HasH W x lh2) : Calls Try.prog 20 #[(.agg #[.slice x.s.o x.s.n x.s.c, .slice x.e.o x.e.n x.e.c]), .int .i64 0, .agg #[.int .i64 0, .int .u64 0, .int .u64 0, .int .i64 0, .int .i64 0, .int .i64 0, .int .i64 0, .int .i64 0], .int .i64 4] W fun e w' => ∃ z : Hh, e = .returned (.tuple #[(.agg #[.slice z.s.o z.s.n z.s.c, .slice z.e.o z.e.n z.e.c]), .int .i64 0]) ∧ HasH w' z lh3 ∧ Below W.heap.size W w' := by
  have g := invoke_any x lh2 0 c0 4 W (lv_n h (by decide) (by decide)).1 (lv_n h (by decide) (by decide)).2 (lv_short (by simp)) h
  rw [lv_e4, lv_h3] at g
  exact g
theorem lv_k6 {W : World} {x : Hh} (h : HasH W x lh3) : Calls Try.prog 22 #[(.agg #[.slice x.s.o x.s.n x.s.c, .slice x.e.o x.e.n x.e.c]), .agg #[.int .i64 0, .int .i64 0, .int .i64 0, .int .u64 0, .int .u64 0, .int .i64 0, .int .i64 0, .int .i64 0, .int .i64 0, .int .i64 0, .int .i64 2, .slice none 0 0]] W fun e w' => ∃ z : Hh, e = .returned (.tuple #[(.agg #[.slice z.s.o z.s.n z.s.c, .slice z.e.o z.e.n z.e.c]), .int .i64 0]) ∧ HasH w' z lh4 ∧ Below W.heap.size W w' := by
  have g := note_any x lh3 ⟨0, 0, c0, 2, []⟩ nilH W (lv_n h (by decide) (by decide)).1 (lv_n h (by decide) (by decide)).2 (by decide) (lv_short (by simp)) h (hasL_nil _ _)
  rw [lv_e5, lv_h4] at g
  exact g
theorem lv_k7 {W : World} {x : Hh} (h : HasH W x lh4) : Calls Try.prog 22 #[(.agg #[.slice x.s.o x.s.n x.s.c, .slice x.e.o x.e.n x.e.c]), .agg #[.int .i64 0, .int .i64 0, .int .i64 0, .int .u64 0, .int .u64 0, .int .i64 0, .int .i64 0, .int .i64 0, .int .i64 0, .int .i64 0, .int .i64 2, .slice none 0 0]] W fun e w' => ∃ z : Hh, e = .returned (.tuple #[(.agg #[.slice z.s.o z.s.n z.s.c, .slice z.e.o z.e.n z.e.c]), .int .i64 2]) ∧ Below W.heap.size W w' := by
  have g := note_any x lh4 ⟨0, 0, c0, 2, []⟩ nilH W (lv_n h (by decide) (by decide)).1 (lv_n h (by decide) (by decide)).2 (by decide) (lv_short (by simp)) h (hasL_nil _ _)
  rw [lv_e6] at g
  exact g.mono fun _ _ ⟨z, e, _, b⟩ => ⟨z, e, b⟩
set_option maxRecDepth 100000 in
set_option maxHeartbeats 8000000 in
theorem live_any (w : World) : Calls Try.prog 9 #[] w fun e w' => e = .returned (.bool true) ∧ Below w.heap.size w w' := by
  go_enter Try.func9, Try.ntmps9
  go_upto_region 2 with (go_at_call 20; refine (lv_k1 _).mono ?_; rintro e w1 ⟨x1, rfl, hz, b1⟩)
  have H1 := hid (hz.below (alloc_below w1 (.cells #[.slice x1.s.o x1.s.n x1.s.c, .slice x1.e.o x1.e.n x1.e.c] 25)))
  have X1 := hid (hb_new w1 x1)
  have B1 := hid (q_alloc b1 (.cells #[.slice x1.s.o x1.s.n x1.s.c, .slice x1.e.o x1.e.n x1.e.c] 25))
  have hl1 : w.heap.size ≤ w1.heap.size := b1.size
  generalize w1.alloc (.cells #[.slice x1.s.o x1.s.n x1.s.c, .slice x1.e.o x1.e.n x1.e.c] 25) = V1 at H1 X1 B1 ⊢
  generalize w1.heap.size = p1 at X1 hl1 ⊢
  clear hz b1
  have c0 := X1.out.c0
  have c1 := X1.out.c1
  go_upto_region 3 with (go_at_call 12; refine (lv_k2 H1.out).mono ?_; rintro e w2 ⟨rfl, b2⟩)
  replace H1 := hid (H1.out.below b2)
  replace X1 := hid (X1.out.below b2)
  replace B1 := hid (q_trans B1.out b2)
  clear b2 c0 c1
  have c0 := X1.out.c0
  have c1 := X1.out.c1
  go_upto_region 4 with (go_at_call 21; refine (lv_k3 H1.out).mono ?_; rintro e w3 ⟨x2, rfl, hz, b3⟩; have H2 := hid hz; have X2 := hid (X1.out.below b3); have B2 := hid (q_trans B1.out b3); have q0 := X2.out.c0; have q1 := X2.out.c1; have f0 := X2.out.fz 0; have f1 := X2.out.fz 1; clear hz b3)
  have Y2 : Hid (Hb ((w3.setCell ⟨p1, 0, none⟩ (.slice x2.s.o x2.s.n x2.s.c)).setCell ⟨p1, 1, none⟩ (.slice x2.e.o x2.e.n x2.e.c)) p1 x2) := X2.out.put (x' := x2)
  have G2 : Hid (HasH ((w3.setCell ⟨p1, 0, none⟩ (.slice x2.s.o x2.s.n x2.s.c)).setCell ⟨p1, 1, none⟩ (.slice x2.e.o x2.e.n x2.e.c)) x2 lh2) := H2.out.put (x' := x2) X2.out
  have B3 : Hid (Below w.heap.size w ((w3.setCell ⟨p1, 0, none⟩ (.slice x2.s.o x2.s.n x2.s.c)).setCell ⟨p1, 1, none⟩ (.slice x2.e.o x2.e.n x2.e.c))) := put2_low (x := x2) B2.out hl1
  generalize (w3.setCell ⟨p1, 0, none⟩ (.slice x2.s.o x2.s.n x2.s.c)).setCell ⟨p1, 1, none⟩ (.slice x2.e.o x2.e.n x2.e.c) = V3 at Y2 G2 B3 ⊢
  clear c0 c1 q0 q1 f0 f1 X1 X2 H1 H2 B1 B2
  have c0 := Y2.out.c0
  have c1 := Y2.out.c1
  go_upto_region 5 with (go_at_call 20; refine (lv_k4 G2.out).mono ?_; rintro e w4 ⟨x6, rfl, b4⟩)
  replace Y2 := hid ((Y2.out.below b4).below (alloc_below w4 (.cells #[.slice x6.s.o x6.s.n x6.s.c, .slice x6.e.o x6.e.n x6.e.c] 25)))
  replace G2 := hid ((G2.out.below b4).below (alloc_below w4 (.cells #[.slice x6.s.o x6.s.n x6.s.c, .slice x6.e.o x6.e.n x6.e.c] 25)))
  replace B3 := hid (q_alloc (q_trans B3.out b4) (.cells #[.slice x6.s.o x6.s.n x6.s.c, .slice x6.e.o x6.e.n x6.e.c] 25))
  generalize w4.alloc (.cells #[.slice x6.s.o x6.s.n x6.s.c, .slice x6.e.o x6.e.n x6.e.c] 25) = V4 at Y2 G2 B3 ⊢
  clear c0 c1 b4
  have c0 := Y2.out.c0
  have c1 := Y2.out.c1
  go_upto_region 6 with (go_at_call 20; refine (lv_k5 G2.out).mono ?_; rintro e w5 ⟨⟨⟨so, sn, sc⟩, y8⟩, rfl, hz, b5⟩)
  obtain ⟨a, ea, _⟩ := atS_of hz.s.row 0 (by decide)
  obtain rfl : so = some a := ea
  have hsn : sn = 2 := hz.s.len
  subst hsn
  have H8 : Hid (HasH (w5.alloc (.cells #[.slice (some a) 2 sc, .slice y8.o y8.n y8.c] 25)) ⟨⟨some a, 2, sc⟩, y8⟩ lh3) := hz.below (alloc_below _ _)
  have X8 : Hid (Hb (w5.alloc (.cells #[.slice (some a) 2 sc, .slice y8.o y8.n y8.c] 25)) w5.heap.size ⟨⟨some a, 2, sc⟩, y8⟩) := hb_new w5 ⟨⟨some a, 2, sc⟩, y8⟩
  have B5 := hid (q_alloc (q_trans B3.out b5) (.cells #[.slice (some a) 2 sc, .slice y8.o y8.n y8.c] 25))
  generalize w5.alloc (.cells #[.slice (some a) 2 sc, .slice y8.o y8.n y8.c] 25) = V5 at H8 X8 B5 ⊢
  generalize w5.heap.size = b8 at X8 ⊢
  clear c0 c1 Y2 G2 B3 hz b5
  have c0 : V5.cell? ⟨b8, 0, none⟩ = some (.slice (some a) 2 sc) := X8.out.c0
  have c1 : V5.cell? ⟨b8, 1, none⟩ = some (.slice y8.o y8.n y8.c) := X8.out.c1
  have K6 : Hid (Calls Try.prog 22 #[.agg #[.slice (some a) 2 sc, .slice y8.o y8.n y8.c], .agg #[.int .i64 0, .int .i64 0, .int .i64 0, .int .u64 0, .int .u64 0, .int .i64 0, .int .i64 0, .int .i64 0, .int .i64 0, .int .i64 0, .int .i64 2, .slice none 0 0]] V5 fun e w' => ∃ z : Hh, e = .returned (.tuple #[(.agg #[.slice z.s.o z.s.n z.s.c, .slice z.e.o z.e.n z.e.c]), .int .i64 0]) ∧ HasH w' z lh4 ∧ Below V5.heap.size V5 w') := lv_k6 (x := ⟨⟨some a, 2, sc⟩, y8⟩) H8.out
  go_upto_region 7 with (go_at_call 22; refine K6.out.mono ?_; rintro e w6 ⟨x10, rfl, hz, b6⟩)
  replace H8 := hid ((H8.out.below b6).below (alloc_below w6 (.cells #[.slice x10.s.o x10.s.n x10.s.c, .slice x10.e.o x10.e.n x10.e.c] 25)))
  replace X8 := hid ((X8.out.below b6).below (alloc_below w6 (.cells #[.slice x10.s.o x10.s.n x10.s.c, .slice x10.e.o x10.e.n x10.e.c] 25)))
  replace B5 := hid (q_alloc (q_trans B5.out b6) (.cells #[.slice x10.s.o x10.s.n x10.s.c, .slice x10.e.o x10.e.n x10.e.c] 25))
  have H10 := hid (hz.below (alloc_below w6 (.cells #[.slice x10.s.o x10.s.n x10.s.c, .slice x10.e.o x10.e.n x10.e.c] 25)))
  have X10 := hid (hb_new w6 x10)
  generalize w6.alloc (.cells #[.slice x10.s.o x10.s.n x10.s.c, .slice x10.e.o x10.e.n x10.e.c] 25) = V6 at H8 X8 B5 H10 X10 ⊢
  generalize w6.heap.size = b10 at X10 ⊢
  clear c0 c1 K6 hz b6
  have c0 := X10.out.c0
  have c1 := X10.out.c1
  go_upto_region 8 with (go_at_call 22; refine (lv_k7 H10.out).mono ?_; rintro e w7 ⟨x12, rfl, b7⟩)
  have B7 := hid (q_alloc (q_trans B5.out b7) (.cells #[.slice x12.s.o x12.s.n x12.s.c, .slice x12.e.o x12.e.n x12.e.c] 25))
  have HS : Hid (SV (w7.alloc (.cells #[.slice x12.s.o x12.s.n x12.s.c, .slice x12.e.o x12.e.n x12.e.c] 25)) b8 b10 a sc y8 x10 (w7.alloc (.cells #[.slice x12.s.o x12.s.n x12.s.c, .slice x12.e.o x12.e.n x12.e.c] 25))) := sv_start ((X8.out.below b7).below (alloc_below _ _)) ((X10.out.below b7).below (alloc_below _ _)) ((H8.out.below b7).below (alloc_below _ _)) ((H10.out.below b7).below (alloc_below _ _))
  generalize w7.alloc (.cells #[.slice x12.s.o x12.s.n x12.s.c, .slice x12.e.o x12.e.n x12.e.c] 25) = V at B7 HS ⊢
  have hn := lv_n H10.out (by decide) (by decide)
  have hn1 := hid hn.1
  have hn2 := hid hn.2
  have hn3 := hid (lv_n H8.out (by decide) (by decide)).2
  clear c0 c1 b7 H8 X8 B5 H10 X10 hn
  have hS := HS.out
  obtain ⟨k0, k1, k2, k3, k4, k5, k6, k7, k8, k9, k10, k11, k12, k13, k14, k15, k16, k17, k18, k19, k20, k21, k22, k23, k24, k25, k26, k27, k28, k29, k30, k31, k32, k33, -, -, -⟩ := HS.out
  simp only [List.append_eq, List.cons_append, List.nil_append]
  go_region_held3 (SV V b8 b10 a sc y8 x10) ((refine sv_keep ?_ hS; repeat' (first | with_reducible exact HB4.out | with_reducible exact HB3.out | with_reducible exact HB2.out | with_reducible exact HB1.out | with_reducible exact (Below.refl _ V).drew | with_reducible exact Below.refl _ _ | with_reducible refine Below.drew ?_ | with_reducible refine q_alloc ?_ _)))
    (first
      | (go_at_call 15; refine (num_any _ _).mono ?_; rintro e w8 ⟨rfl, hw⟩; rw [hw]; clear hw w8)
      | (go_at_call 19; refine lv_ahead.mono ?_; rintro e wA ⟨rfl, b⟩; have HB1 : Hid (Below V.heap.size V wA) := q_trans (Below.refl _ V).drew b; clear b)
      | (go_at_call 18; refine (lv_sm (sv_keep HB2.out HS.out) hn3.out).mono ?_; rintro e wC ⟨rfl, b⟩; have HB3 : Hid (Below V.heap.size V wC) := q_trans HB2.out b; clear b)
      | (go_at_call 16; refine (lv_ck2 (w := wC)).mono ?_; rintro e wD ⟨rfl, b⟩; have HB4 : Hid (Below V.heap.size V wD) := q_trans (q_alloc HB3.out _) b; clear b)
      | (go_at_call 16; refine (lv_check (sv_keep HB1.out HS.out) hn1.out hn2.out).mono ?_; rintro e wB ⟨rfl, b⟩; have HB2 : Hid (Below V.heap.size V wB) := q_trans HB1.out b; clear b)
      | fail)
  all_goals
    go_wp2_with fail
    go_ret
    exact ⟨rfl, q_trans B7.out HB4.out⟩
end Go.Proofs.Ytmnkbkhfonngeaa.Hi
