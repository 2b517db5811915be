/- What Parse does. -/
import Derived.Test.YtilannincbcgkaaDoorKlW4
import Derived.Deep.RegionHeld3
namespace Go.Proofs.YtilannincbcgkaaDoor.Kl
open Go.RowKit
open Ad (q_trans q_alloc q_set ret_int ret_bool hid Later wp_region_later later_call)

/-- Four words lie at an address. -/
structure At4 (w : World) (a : Addr) (x y z u : Int) : Prop where
  c0 : w.cell? a = some (.int .u64 x)
  c1 : w.cell? ⟨a.block, a.off + 1, none⟩ = some (.int .u64 y)
  c2 : w.cell? ⟨a.block, a.off + 2, none⟩ = some (.int .u64 z)
  c3 : w.cell? ⟨a.block, a.off + 3, none⟩ = some (.int .u64 u)
theorem At4.lt {w : World} {a : Addr} {x y z u : Int} (h : At4 w a x y z u) : a.block < w.heap.size := cell_lt h.c0
theorem At4.below {w w' : World} {a : Addr} {x y z u : Int} (h : At4 w a x y z u) (hb : Below w.heap.size w w') : At4 w' a x y z u :=
  ⟨(hb.cell h.lt).trans h.c0, (hb.cell (p := ⟨a.block, a.off + 1, none⟩) h.lt).trans h.c1, (hb.cell (p := ⟨a.block, a.off + 2, none⟩) h.lt).trans h.c2, (hb.cell (p := ⟨a.block, a.off + 3, none⟩) h.lt).trans h.c3⟩
theorem at4_of {w : World} {ao : Option Addr} {n cap : Nat} {x y z u : Int} (h : HasU w ao n cap [x, y, z, u]) : ∃ a, ao = some a ∧ n = 4 ∧ At4 w a x y z u := by
  have hn := h.len
  obtain ⟨a, e, h0⟩ := h.cell 0 (by simp at hn; omega)
  obtain ⟨_, e1, h1⟩ := h.cell 1 (by simp at hn; omega)
  obtain ⟨_, e2, h2⟩ := h.cell 2 (by simp at hn; omega)
  obtain ⟨_, e3, h3⟩ := h.cell 3 (by simp at hn; omega)
  subst e
  cases e1; cases e2; cases e3
  refine ⟨a, rfl, by simpa using hn, ?_, ?_, ?_, ?_⟩
  · simpa [Addr.add] using h0
  · simpa [Addr.add] using h1
  · simpa [Addr.add] using h2
  · simpa [Addr.add] using h3
theorem four_of {l : List Int} (h : l.length = 4) : ∃ x y z u, l = [x, y, z, u] := by
  match l, h with
  | [x, y, z, u], _ => exact ⟨x, y, z, u, rfl⟩
/-- Five numbers in a block that may be written: the first k of them are read. -/
structure Fv (w : World) (b : Nat) (p0 p1 p2 p3 p4 : Int) : Prop where
  c0 : w.cell? ⟨b, 0, none⟩ = some (.int .i64 p0)
  c1 : w.cell? ⟨b, 1, none⟩ = some (.int .i64 p1)
  c2 : w.cell? ⟨b, 2, none⟩ = some (.int .i64 p2)
  c3 : w.cell? ⟨b, 3, none⟩ = some (.int .i64 p3)
  c4 : w.cell? ⟨b, 4, none⟩ = some (.int .i64 p4)
  fr : ∀ j, w.frozen? ⟨b, j, none⟩ = false
def Cut (w : World) (b : Nat) (x : Int) (k : Nat) : Prop := Fv w b (if 0 < k then gp x 0 else 0) (if 1 < k then gp x 1 else 0) (if 2 < k then gp x 2 else 0) (if 3 < k then gp x 3 else 0) (if 4 < k then gp x 4 else 0)
theorem fv_new (w : World) (T : TypeId) : Fv (w.alloc (.cells #[.int .i64 0, .int .i64 0, .int .i64 0, .int .i64 0, .int .i64 0] T)) w.heap.size 0 0 0 0 0 := by
  constructor <;> simp
theorem Fv.lt {w : World} {b : Nat} {p0 p1 p2 p3 p4 : Int} (h : Fv w b p0 p1 p2 p3 p4) : b < w.heap.size := cell_lt (a := ⟨b, 0, none⟩) h.c0
theorem Fv.below {w w' : World} {b : Nat} {p0 p1 p2 p3 p4 : Int} (h : Fv w b p0 p1 p2 p3 p4) (hb : Below w.heap.size w w') : Fv w' b p0 p1 p2 p3 p4 :=
  ⟨(hb.cell (p := ⟨b, 0, none⟩) h.lt).trans h.c0, (hb.cell (p := ⟨b, 1, none⟩) h.lt).trans h.c1, (hb.cell (p := ⟨b, 2, none⟩) h.lt).trans h.c2, (hb.cell (p := ⟨b, 3, none⟩) h.lt).trans h.c3, (hb.cell (p := ⟨b, 4, none⟩) h.lt).trans h.c4, fun j => (hb.frozen h.lt).trans (h.fr j)⟩
theorem Fv.spot {w : World} {b : Nat} {p0 p1 p2 p3 p4 : Int} (h : Fv w b p0 p1 p2 p3 p4) (k : Nat) (hk : k < 5) : ∃ u, w.cell? ⟨b, k, none⟩ = some u := by
  have : k = 0 ∨ k = 1 ∨ k = 2 ∨ k = 3 ∨ k = 4 := by omega
  rcases this with rfl | rfl | rfl | rfl | rfl
  · exact ⟨_, h.c0⟩
  · exact ⟨_, h.c1⟩
  · exact ⟨_, h.c2⟩
  · exact ⟨_, h.c3⟩
  · exact ⟨_, h.c4⟩
theorem cell_set {w : World} {b i j : Nat} {v u : Value} (h : w.cell? ⟨b, j, none⟩ = some u) : (w.setCell ⟨b, i, none⟩ v).cell? ⟨b, j, none⟩ = some (if i = j then v else u) := by
  by_cases e : i = j
  · subst e
    rw [if_pos rfl]
    exact World.cell?_setCell_same _ _ _ h
  · rw [if_neg e]
    exact (World.cell?_setCell_other _ _ _ _ (fun h => e (congrArg Addr.off h))).trans h
theorem cut_set {w : World} {b k : Nat} {x : Int} (h : Cut w b x k) (hk : k < 5) : Cut (w.setCell ⟨b, k, none⟩ (.int .i64 (gp x k))) b x (k + 1) := by
  obtain ⟨h0, h1, h2, h3, h4, g⟩ := h
  have : k = 0 ∨ k = 1 ∨ k = 2 ∨ k = 3 ∨ k = 4 := by omega
  refine ⟨(cell_set h0).trans ?_, (cell_set h1).trans ?_, (cell_set h2).trans ?_, (cell_set h3).trans ?_, (cell_set h4).trans ?_, fun j => by simpa using g j⟩
  all_goals (rcases this with rfl | rfl | rfl | rfl | rfl <;> simp)
theorem cell_far {w : World} {b k : Nat} {p : Addr} {v u : Value} (h : w.cell? p = some u) (hn : p.block ≠ b) : (w.setCell ⟨b, k, none⟩ v).cell? p = some u :=
  (World.cell?_setCell_other _ _ _ _ (fun e => hn (congrArg Addr.block e).symm)).trans h
theorem Own.far {w : World} {b b' k : Nat} {c : C} {v : Value} (h : Own w b c) (hne : b ≠ b') : Own (w.setCell ⟨b', k, none⟩ v) b c := by
  obtain ⟨⟨h0, h1, h2, h3, h4, h5, h6, h7⟩, g⟩ := h
  exact ⟨⟨cell_far h0 hne, cell_far h1 hne, cell_far h2 hne, cell_far h3 hne, cell_far h4 hne, cell_far h5 hne, cell_far h6 hne, cell_far h7 hne⟩, fun j => by simpa using g j⟩
theorem index_fld (k : Nat) (hk : k < 5) (w : World) : (Instr.index 50 (.agg #[.int .i64 0, .int .i64 4, .int .i64 4, .int .i64 4, .int .i64 8, .int .i64 4, .int .i64 12, .int .i64 16, .int .i64 28, .int .i64 21]) (.int .i64 k)).run Tryd.prog w = .ok (.agg #[.int .i64 (fldAt k), .int .i64 (fldW k)]) w := by
  have : k = 0 ∨ k = 1 ∨ k = 2 ∨ k = 3 ∨ k = 4 := by omega
  rcases this with rfl | rfl | rfl | rfl | rfl <;> simp [Instr.index, go_sem, fldAt, fldW]
/-- What is read while a field is stored. -/
abbrev SP (a : Addr) (x : Int) (f : Nat) (p q : Int) (w : World) : Prop := w.cell? a = some (.int .u64 x) ∧ w.cell? ⟨f, 0, none⟩ = some (.int .i64 p) ∧ w.cell? ⟨f, 1, none⟩ = some (.int .i64 q)
theorem sp_drew {a : Addr} {x : Int} {f : Nat} {p q : Int} {w : World} (h : SP a x f p q w) : SP a x f p q w.drew := h
theorem sp_set {a : Addr} {x : Int} {f b k : Nat} {p q : Int} {w : World} {v : Value} (h : SP a x f p q w) (h1 : a.block ≠ b) (h2 : f ≠ b) : SP a x f p q (w.setCell ⟨b, k, none⟩ v) :=
  ⟨cell_far h.1 h1, cell_far h.2.1 h2, cell_far h.2.2 h2⟩
theorem Own2.mk {w : World} (p q : Int) (T : TypeId) : (w.alloc (.cells #[.int .i64 p, .int .i64 q] T)).cell? ⟨w.heap.size, 0, none⟩ = some (.int .i64 p) ∧ (w.alloc (.cells #[.int .i64 p, .int .i64 q] T)).cell? ⟨w.heap.size, 1, none⟩ = some (.int .i64 q) := by
  constructor <;> simp
/-- What is read while the other fields are stored. -/
abbrev SQ (a : Addr) (y z u : Int) (w : World) : Prop := w.cell? ⟨a.block, a.off + 1, none⟩ = some (.int .u64 y) ∧ w.cell? ⟨a.block, a.off + 2, none⟩ = some (.int .u64 z) ∧ w.cell? ⟨a.block, a.off + 3, none⟩ = some (.int .u64 u)
theorem sq_drew {a : Addr} {y z u : Int} {w : World} (h : SQ a y z u w) : SQ a y z u w.drew := h
theorem sq_set {a : Addr} {y z u : Int} {b k : Nat} {w : World} {v : Value} (h : SQ a y z u w) (h1 : a.block ≠ b) : SQ a y z u (w.setCell ⟨b, k, none⟩ v) :=
  ⟨cell_far (p := ⟨a.block, a.off + 1, none⟩) h.1 h1, cell_far (p := ⟨a.block, a.off + 2, none⟩) h.2.1 h1, cell_far (p := ⟨a.block, a.off + 3, none⟩) h.2.2 h1⟩
theorem own_set3 {w : World} {b : Nat} {c : C} (h : Own w b c) (y z v : Int) : Own (((w.setCell ⟨b, 1, none⟩ (.int .u64 y)).setCell ⟨b, 2, none⟩ (.int .u64 z)).setCell ⟨b, 7, none⟩ (.int .i64 v)) b ⟨c.k, y, z, c.r, c.g, c.t, c.s, v⟩ := by
  obtain ⟨⟨h0, h1, h2, h3, h4, h5, h6, h7⟩, g⟩ := h
  refine ⟨⟨cell_set (cell_set (cell_set h0)), cell_set (cell_set (cell_set h1)), cell_set (cell_set (cell_set h2)), cell_set (cell_set (cell_set h3)), cell_set (cell_set (cell_set h4)), cell_set (cell_set (cell_set h5)), cell_set (cell_set (cell_set h6)), cell_set (cell_set (cell_set h7))⟩, fun j => by simpa using g j⟩
/-- What Parse says. -/
def ParR (l : List Int) (w : World) (e : Ending) (w' : World) : Prop := e = .returned (.tuple #[(.agg #[.int .i64 (parC l).k, .int .u64 (parC l).a, .int .u64 (parC l).b, .int .i64 (parC l).r, .int .i64 (parC l).g, .int .i64 (parC l).t, .int .i64 (parC l).s, .int .i64 (parC l).v]), .int .i64 (parE l)]) ∧ Below w.heap.size w w'
set_option maxRecDepth 100000 in
set_option maxHeartbeats 1000000 in
theorem parse_len (ao : Option Addr) (n cap : Nat) (l : List Int) (w : World) (h : Hid (n = l.length)) (hn : n ≠ 4) : Calls Tryd.prog 11 #[.slice ao n cap] w (ParR l w) := by
  have HP := hid (par_no (par_len (l := l) (by rw [← h.out]; exact hn)))
  have hd : ((n : Int) != 4) = true := by simp; omega
  go_enter Tryd.func11, Tryd.ntmps11
  go_wp2_with fail
  refine bodyPost_ret (v := .tuple #[.agg #[.int .i64 0, .int .u64 0, .int .u64 0, .int .i64 0, .int .i64 0, .int .i64 0, .int .i64 0, .int .i64 0], .int .i64 150]) (by simp [results, Tryd.results11, go_sem]) rfl ⟨by rw [HP.out.1, HP.out.2]; rfl, ?_⟩
  repeat (first | exact q_alloc (Below.refl _ _) _ | refine q_set ?_ (by simp) _)
set_option maxRecDepth 100000 in
set_option maxHeartbeats 2000000 in
theorem parse_four (a : Addr) (cap : Nat) (x y z u : Int) (w : World) (hT : Tabs w) (hl : ∀ i ∈ [x, y, z, u], U64 i) (hA : At4 w a x y z u) : Calls Tryd.prog 11 #[.slice (some a) 4 cap] w (ParR [x, y, z, u] w) := by
  have HT : Hid (Tabs w) := hT
  have HX : Hid (U64 x) := hl x (by simp)
  have HW := hid (parW_wf hl)
  have HA := hid hA
  have hab := hid hA.lt
  have HO1 := hid ((own_new w C.zero 24).alloc (.cells #[.int .i64 0, .int .i64 0, .int .i64 0, .int .i64 0, .int .i64 0] 45))
  have HO2 := hid (fv_new (w.alloc (.cells #[.int .i64 C.zero.k, .int .u64 C.zero.a, .int .u64 C.zero.b, .int .i64 C.zero.r, .int .i64 C.zero.g, .int .i64 C.zero.t, .int .i64 C.zero.s, .int .i64 C.zero.v] 24)) 45)
  rw [show (w.alloc (.cells #[.int .i64 C.zero.k, .int .u64 C.zero.a, .int .u64 C.zero.b, .int .i64 C.zero.r, .int .i64 C.zero.g, .int .i64 C.zero.t, .int .i64 C.zero.s, .int .i64 C.zero.v] 24)).heap.size = w.heap.size + 1 by simp] at HO2
  have HB0 := hid (q_alloc (q_alloc (Below.refl _ w) (.cells #[.int .i64 C.zero.k, .int .u64 C.zero.a, .int .u64 C.zero.b, .int .i64 C.zero.r, .int .i64 C.zero.g, .int .i64 C.zero.t, .int .i64 C.zero.s, .int .i64 C.zero.v] 24)) (.cells #[.int .i64 0, .int .i64 0, .int .i64 0, .int .i64 0, .int .i64 0] 45))
  obtain ⟨t0, t1, t2, t3, t4, t5, t6, t7, t8, t9⟩ := hT.all
  have hpos : 0 < w.heap.size := cell_lt (a := ⟨0, 0, none⟩) t0
  clear hT hl hA
  go_enter Tryd.func11, Tryd.ntmps11
  go_wp2_with fail
  go_loopw [15] (fun i wr => ∃ k : Nat, k ≤ 5 ∧ i = .int .i64 k ∧ Hid (Below w.heap.size w wr) ∧ Hid (Own wr w.heap.size C.zero) ∧ Hid (Cut wr (w.heap.size + 1) x k)) (fun i _ => 5 - (intOf i).toNat)
  case atStart => exact ⟨0, by omega, rfl, HB0, HO1, HO2⟩
  case round =>
    obtain ⟨k, hk, rfl, hI, hO1, hO2⟩ := hrel
    by_cases hlt : k < 5
    · have hix := index_fld k hlt
      have i1 : (0 : Int) ≤ (k : Int) := by omega
      have i2 : (k : Int) < 5 := by omega
      obtain ⟨uu, hcu⟩ := hO2.out.spot k hlt
      have hfu := hO2.out.fr k
      have hltr := hO2.out.lt
      have hg := gp_range x k
      have HG : Hid (gp x k = getT x (fldAt k) (fldW k)) := rfl
      obtain ⟨yy, hy⟩ : ∃ yy, gp x k = yy := ⟨_, rfl⟩
      rw [hy] at hg HG
      have hw64 := wrap_i64 (x := yy) (by omega) (by omega)
      have HY : Hid (gp x k = yy) := hy
      have HA1 := hid ((HA.out.below hI.out).below (q_alloc (Below.refl _ wr) (.cells #[.int .i64 (fldAt k), .int .i64 (fldW k)] 49)))
      clear hy
      have HF := (Own2.mk (w := wr) (fldAt k) (fldW k) 49)
      have hltw := hI.out.size
      have n1 : a.block ≠ w.heap.size + 1 := by have := hab.out; omega
      have n2 : wr.heap.size ≠ w.heap.size + 1 := by omega
      have n0 : w.heap.size ≠ w.heap.size + 1 := by omega
      replace n1 := hid n1
      replace n2 := hid n2
      replace n0 := hid n0
      have HR1 := hid (hO1.out.alloc (.cells #[.int .i64 (fldAt k), .int .i64 (fldW k)] 49))
      have HR2 := hid (hO2.out.below (q_alloc (Below.refl _ wr) (.cells #[.int .i64 (fldAt k), .int .i64 (fldW k)] 49)))
      have HRB := hid (q_alloc hI.out (.cells #[.int .i64 (fldAt k), .int .i64 (fldW k)] 49))
      have hcu2 := hcu
      go_wp2_with fail
      clear hcu hfu hix t0 t1 t2 t3 t4 t5 t6 t7 t8 t9
      have hS : SP a x wr.heap.size (fldAt k) (fldW k) (wr.alloc (.cells #[.int .i64 (fldAt k), .int .i64 (fldW k)] 49)) := ⟨HA1.out.c0, HF.1, HF.2⟩
      obtain ⟨vv, hcu⟩ := HR2.out.spot k hlt
      have hfu := HR2.out.fr k
      clear HF HA1 hcu2
      generalize (wr.alloc (.cells #[.int .i64 (fldAt k), .int .i64 (fldW k)] 49)) = W at *
      go_region_held3 (SP a x wr.heap.size (fldAt k) (fldW k)) (first | with_reducible assumption | with_reducible exact sp_drew hS | with_reducible exact sp_drew (sp_set hS n1.out n2.out) | with_reducible exact sp_set (sp_drew hS) n1.out n2.out)
        (first | (go_at_call 22; refine (get_any _ _ _ _ HX.out).mono ?_; rintro e w' ⟨rfl, hw⟩; rw [hw]; clear hw w'; rw [← HG.out]) | fail)
      all_goals go_wp2_with fail
      all_goals refine ⟨⟨k + 1, by omega, by go_num, ?_, ?_, ?_⟩, by simp [intOf]; omega⟩
      all_goals first | exact (q_set HRB.out (Nat.le_succ _) _).drew | exact q_set HRB.out.drew (Nat.le_succ _) _ | exact (HR1.out.far n0.out).below (Below.refl _ _).drew | exact (show Own _ _ _ from HR1.out.below (Below.refl _ _).drew).far n0.out | (rw [← HY.out]; exact (cut_set HR2.out hlt).below (Below.refl _ _).drew) | (rw [← HY.out]; exact cut_set (HR2.out.below (Below.refl _ _).drew) hlt)
    · obtain rfl : k = 5 := by omega
      obtain ⟨d0, d1, d2, d3, d4, df⟩ := (show Fv wr (w.heap.size + 1) (gp x 0) (gp x 1) (gp x 2) (gp x 3) (gp x 4) from hO2.out)
      go_wp2_with fail
      refine (fromParts_any _ _ _ _ _ _).mono ?_
      rintro e w1 ⟨rfl, b1⟩
      have HB1 := hid (q_trans hI.out b1)
      have HZ1 := hid (hO1.out.below b1)
      have HA1 := hid (HA.out.below HB1.out)
      clear b1 d0 d1 d2 d3 d4 df hO1 hO2 hI
      go_wp2_with fail
      have HO := hid (own_new w1 ⟨gp x 0, 0, 0, gp x 1, gp x 3, gp x 2, gp x 4, 0⟩ 24)
      have HZ2 := hid (HZ1.out.alloc (.cells #[.int .i64 (gp x 0), .int .u64 0, .int .u64 0, .int .i64 (gp x 1), .int .i64 (gp x 3), .int .i64 (gp x 2), .int .i64 (gp x 4), .int .i64 0] 24))
      have HB2 := hid (q_alloc HB1.out (.cells #[.int .i64 (gp x 0), .int .u64 0, .int .u64 0, .int .i64 (gp x 1), .int .i64 (gp x 3), .int .i64 (gp x 2), .int .i64 (gp x 4), .int .i64 0] 24))
      have HA2 := hid (HA.out.below HB2.out)
      have hw1 := HB1.out.size
      have nB := hid (show a.block ≠ w1.heap.size by have := hab.out; omega)
      have nZ := hid (show w.heap.size ≠ w1.heap.size by have := HZ1.out.held.lt; omega)
      have hS : SQ a y z u (w1.alloc (.cells #[.int .i64 (gp x 0), .int .u64 0, .int .u64 0, .int .i64 (gp x 1), .int .i64 (gp x 3), .int .i64 (gp x 2), .int .i64 (gp x 4), .int .i64 0] 24)) := ⟨HA2.out.c1, HA2.out.c2, HA2.out.c3⟩
      obtain ⟨⟨o0, o1, o2, o3, o4, o5, o6, o7⟩, of⟩ := HO.out
      dsimp only at o0 o1 o2 o3 o4 o5 o6 o7
      obtain ⟨vv, hv⟩ : ∃ vv, IntKind.i64.wrap u = vv := ⟨_, rfl⟩
      have HPt : Hid (∀ W : World, Tabs W → Calls Tryd.prog 9 #[.agg #[.int .i64 (gp x 0), .int .u64 y, .int .u64 z, .int .i64 (gp x 1), .int .i64 (gp x 3), .int .i64 (gp x 2), .int .i64 (gp x 4), .int .i64 vv]] W (PutR (parW [x, y, z, u]) W)) := fun W hW => by
        rw [← hv]
        exact put_c (parW [x, y, z, u]) W hW HW.out
      have HPW : Hid (((.agg #[.int .i64 (parW [x, y, z, u]).k, .int .u64 (parW [x, y, z, u]).a, .int .u64 (parW [x, y, z, u]).b, .int .i64 (parW [x, y, z, u]).r, .int .i64 (parW [x, y, z, u]).g, .int .i64 (parW [x, y, z, u]).t, .int .i64 (parW [x, y, z, u]).s, .int .i64 (parW [x, y, z, u]).v]) : Value) = .agg #[.int .i64 (gp x 0), .int .u64 y, .int .u64 z, .int .i64 (gp x 1), .int .i64 (gp x 3), .int .i64 (gp x 2), .int .i64 (gp x 4), .int .i64 vv]) := by
        rw [← hv]; rfl
      clear HA2
      generalize gp x 0 = g0 at *
      generalize gp x 1 = g1 at *
      generalize gp x 2 = g2 at *
      generalize gp x 3 = g3 at *
      generalize gp x 4 = g4 at *
      generalize (w1.alloc (.cells #[.int .i64 g0, .int .u64 0, .int .u64 0, .int .i64 g1, .int .i64 g3, .int .i64 g2, .int .i64 g4, .int .i64 0] 24)) = W at *
      go_region_held3 (SQ a y z u) (first | with_reducible assumption | (repeat (first | with_reducible exact hS | with_reducible refine sq_drew ?_ | with_reducible refine sq_set ?_ nB.out))) (fail)
      all_goals go_wp2_with fail
      have HBq := hid (q_set (q_set (q_set HB2.out hw1 (p := ⟨w1.heap.size, 1, none⟩) (.int .u64 y)) hw1 (p := ⟨w1.heap.size, 2, none⟩) (.int .u64 z)) hw1 (p := ⟨w1.heap.size, 7, none⟩) (.int .i64 vv)).drew
      have HIq := hid ((own_set3 HO.out y z vv).below (Below.refl _ _).drew)
      have HZq := hid ((((HZ2.out.far nZ.out (k := 1) (v := .int .u64 y)).far nZ.out (k := 2) (v := .int .u64 z)).far nZ.out (k := 7) (v := .int .i64 vv)).below (Below.refl _ _).drew)
      have HL := hid (par_legs (l := [x, y, z, u]) rfl)
      clear o0 o1 o2 o3 o4 o5 o6 o7 of hS HO HZ2 HB2
      generalize ((((W.setCell ⟨w1.heap.size, 1, none⟩ (.int .u64 y)).setCell ⟨w1.heap.size, 2, none⟩ (.int .u64 z)).setCell ⟨w1.heap.size, 7, none⟩ (.int .i64 vv)).drew) = V at *
      refine (HPt.out V (HT.out.below HBq.out)).mono ?_
      rintro e w2 ⟨bo, m, bc, rfl, HM, b2⟩
      have HE := hid (q_trans HBq.out b2)
      have HA2 := hid (HA.out.below HE.out)
      have HI2 := hid (HIq.out.below b2)
      have HZ2 := hid (HZq.out.below b2)
      have HM2 := hid HM.has
      have hne : Nonempty (Later w2) := ⟨⟨w2, Below.refl _ _⟩⟩
      have q0 : ∀ g : Later w2, g.now.cell? a = some (.int .u64 x) := fun g => g.cell HA2.out.c0
      clear HM b2 HPt HBq HIq HZq HZ1 HB1 HA1 nB nZ
      have hL := HL.out
      clear HL
      rcases hL with ⟨hb, e1, e2, e3⟩ | ⟨hb, e1, e2⟩ | ⟨hb, e1, e2, e3⟩
      · have HN := hid (par_yes hb)
        rw [e1] at HM2
        rw [e2]
        obtain ⟨a2, rfl, rfl, h4⟩ := at4_of HM2.out
        have q1 : ∀ g : Later w2, g.now.cell? a2 = some (.int .u64 x) := fun g => g.cell (by rw [h4.c0, e3]; rfl)
        clear e1 e2 e3 hb h4 HM2
        go_wp2_with fail
        refine wp_region_later (by kernel_rfl) (by kernel_rfl) ?_
        repeat (go_big_quiet_step (fail))
        refine wpQuiet_nil ?_
        rintro w3 ⟨⟨_, b3⟩, rfl⟩
        have HE3 := hid (q_trans HE.out b3)
        obtain ⟨⟨z0, z1, z2, z3, z4, z5, z6, z7⟩, zf⟩ := HZ2.out.below b3
        obtain ⟨⟨p0, p1, p2, p3, p4, p5, p6, p7⟩, pf⟩ := HI2.out.below b3
        clear b3 q0 hne
        go_wp2_with fail
        refine bodyPost_ret (v := .tuple #[.agg #[.int .i64 g0, .int .u64 y, .int .u64 z, .int .i64 g1, .int .i64 g3, .int .i64 g2, .int .i64 g4, .int .i64 vv], .int .i64 0]) (by simp [results, Tryd.results11, go_sem, *]) rfl ⟨by rw [HN.out.1, HN.out.2, HPW.out], ?_⟩
        exact q_set (q_set (q_set (q_set (q_set (q_set (q_set (q_set HE3.out (Nat.le_refl _) _) (Nat.le_refl _) _) (Nat.le_refl _) _) (Nat.le_refl _) _) (Nat.le_refl _) _) (Nat.le_refl _) _) (Nat.le_refl _) _) (Nat.le_refl _) _
      · have HN := hid (par_no hb)
        rw [e2]
        clear e1 e2 hb HM2
        go_wp2_with fail
        refine wp_region_later (by kernel_rfl) (by kernel_rfl) ?_
        repeat (go_big_quiet_step (fail))
        refine wpQuiet_nil ?_
        rintro w3 ⟨⟨_, b3⟩, rfl⟩
        have HE3 := hid (q_trans HE.out b3)
        obtain ⟨⟨z0, z1, z2, z3, z4, z5, z6, z7⟩, zf⟩ := HZ2.out.below b3
        obtain ⟨⟨p0, p1, p2, p3, p4, p5, p6, p7⟩, pf⟩ := HI2.out.below b3
        clear b3 q0 hne
        go_wp2_with fail
        refine bodyPost_ret (v := .tuple #[.agg #[.int .i64 0, .int .u64 0, .int .u64 0, .int .i64 0, .int .i64 0, .int .i64 0, .int .i64 0, .int .i64 0], .int .i64 150]) (by simp [results, Tryd.results11, go_sem, *]) rfl ⟨by rw [HN.out.1, HN.out.2]; rfl, ?_⟩
        exact q_set (q_set (q_set (q_set (q_set (q_set (q_set (q_set HE3.out (Nat.le_refl _) _) (Nat.le_refl _) _) (Nat.le_refl _) _) (Nat.le_refl _) _) (Nat.le_refl _) _) (Nat.le_refl _) _) (Nat.le_refl _) _) (Nat.le_refl _) _
      · have HN := hid (par_no hb)
        rw [e1] at HM2
        rw [e2]
        obtain ⟨a2, rfl, rfl, h4⟩ := at4_of HM2.out
        have hne2 : (acc (parW [x, y, z, u]) 5 != x) = true := by simpa using e3
        obtain ⟨t, ht⟩ : ∃ t, acc (parW [x, y, z, u]) 5 = t := ⟨_, rfl⟩
        rw [ht] at hne2
        have q1 : ∀ g : Later w2, g.now.cell? a2 = some (.int .u64 t) := fun g => g.cell (by rw [h4.c0, ht])
        clear e1 e2 e3 hb h4 HM2 ht
        go_wp2_with fail
        refine wp_region_later (by kernel_rfl) (by kernel_rfl) ?_
        repeat (go_big_quiet_step (fail))
        refine wpQuiet_nil ?_
        rintro w3 ⟨⟨_, b3⟩, rfl⟩
        have HE3 := hid (q_trans HE.out b3)
        obtain ⟨⟨z0, z1, z2, z3, z4, z5, z6, z7⟩, zf⟩ := HZ2.out.below b3
        obtain ⟨⟨p0, p1, p2, p3, p4, p5, p6, p7⟩, pf⟩ := HI2.out.below b3
        clear b3 q0 hne
        go_wp2_with fail
        refine bodyPost_ret (v := .tuple #[.agg #[.int .i64 0, .int .u64 0, .int .u64 0, .int .i64 0, .int .i64 0, .int .i64 0, .int .i64 0, .int .i64 0], .int .i64 150]) (by simp [results, Tryd.results11, go_sem, *]) rfl ⟨by rw [HN.out.1, HN.out.2]; rfl, ?_⟩
        exact q_set (q_set (q_set (q_set (q_set (q_set (q_set (q_set HE3.out (Nat.le_refl _) _) (Nat.le_refl _) _) (Nat.le_refl _) _) (Nat.le_refl _) _) (Nat.le_refl _) _) (Nat.le_refl _) _) (Nat.le_refl _) _) (Nat.le_refl _) _
/-- PARSE, OF WHATEVER WORDS. -/
theorem parse_any (ao : Option Addr) (n cap : Nat) (l : List Int) (w : World) (hT : Tabs w) (hl : ∀ i ∈ l, U64 i) (h : HasU w ao n cap l) : Calls Tryd.prog 11 #[.slice ao n cap] w (ParR l w) := by
  by_cases h4 : l.length = 4
  · obtain ⟨x, y, z, u, rfl⟩ := four_of h4
    obtain ⟨a, rfl, rfl, hA⟩ := at4_of h
    exact parse_four a cap x y z u w hT hl hA
  · exact parse_len ao n cap l w h.len (by rw [h.len]; exact h4)
end Go.Proofs.YtilannincbcgkaaDoor.Kl
