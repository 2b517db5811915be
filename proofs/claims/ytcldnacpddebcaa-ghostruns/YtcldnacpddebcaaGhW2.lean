/- What the program's Check (of ghosts) does. -/
import Derived.Test.YtcldnacpddebcaaGhW1
import Derived.Test.YtcldnacpddebcaaTrW2
import Derived.Deep.RegionHeld3
import Derived.Deep.Cut
import Derived.Deep.CutRange
namespace Go.Proofs.Ytcldnacpddebcaa.Gh
open Go.RowKit
open Go.Proofs.Ytcldnacpddebcaa.Tr

/-- A list of bools that may be written. -/
structure Bn (w : World) (b N : Nat) (s : Nat → Bool) : Prop where
  cell : ∀ c, c < N → w.cell? ⟨b, c, none⟩ = some (.bool (s c))
  free : ∀ c, c < N → w.frozen? ⟨b, c, none⟩ = false
theorem Bn.below {w w' : World} {b N : Nat} {s : Nat → Bool} (h : Bn w b N s) (q : Below w.heap.size w w') : Bn w' b N s :=
  ⟨fun c hc => (q.cell (p := ⟨b, c, none⟩) (World.block_lt_of_cell? w _ (h.cell c hc))).trans (h.cell c hc), fun c hc => (q.frozen (p := ⟨b, c, none⟩) (World.block_lt_of_cell? w _ (h.cell c hc))).trans (h.free c hc)⟩
theorem Bn.other {w : World} {b N d j : Nat} {s : Nat → Bool} (h : Bn w b N s) (u : Value) (hne : b ≠ d) : Bn (w.setCell ⟨d, j, none⟩ u) b N s :=
  ⟨fun c hc => (World.cell?_setCell_other _ _ _ _ (far0 (.inl (Ne.symm hne)))).trans (h.cell c hc), fun c hc => by rw [World.frozen?_setCell]; exact h.free c hc⟩
theorem bn_drew {w : World} {b N : Nat} {s : Nat → Bool} (h : Bn w b N s) : Bn w.drew b N s := ⟨h.cell, h.free⟩
theorem bn_set {w : World} {b N c : Nat} {s : Nat → Bool} (h : Bn w b N s) (hc : c < N) : Bn (w.setCell ⟨b, c, none⟩ (.bool true)) b N (fun j => decide (j = c) || s j) := by
  refine ⟨fun j hj => ?_, fun j hj => by rw [World.frozen?_setCell]; exact h.free j hj⟩
  by_cases e : j = c
  · subst e
    rw [World.cell?_setCell_same' _ _ _ (by rw [h.cell j hc]; rfl)]
    simp
  · rw [World.cell?_setCell_other _ _ _ _ (far0 (.inr (Ne.symm e))), h.cell j hj]
    simp [e]
/-- make of n bools. -/
theorem make_B (N : Nat) (hN : N ≤ 10000) : ∃ C : Array Value, (∀ w : World, (Instr.makeSlice 70 (.int .i64 N) (.int .i64 N)).run Try.prog w = .ok (.slice (some ⟨w.heap.size, 0, none⟩) N N) (w.alloc (.cells C 4))) ∧ ∀ w : World, Bn (w.alloc (.cells C 4)) w.heap.size N (fun _ => false) := by
  obtain ⟨C, h1, h2⟩ := make_N N hN
  exact ⟨C, h1, fun w => ⟨fun c hc => (h2 w c hc).1, fun c hc => (h2 w c hc).2⟩⟩
theorem make_B9 : ∃ C : Array Value, (∀ w : World, (Instr.makeSlice 70 (.int .i64 9216) (.int .i64 9216)).run Try.prog w = .ok (.slice (some ⟨w.heap.size, 0, none⟩) 9216 9216) (w.alloc (.cells C 4))) ∧ ∀ w : World, Bn (w.alloc (.cells C 4)) w.heap.size 9216 (fun _ => false) := by
  obtain ⟨N, hN⟩ : ∃ N : Nat, N = 9216 := ⟨_, rfl⟩
  obtain ⟨C, h1, h2⟩ := make_B N (by omega)
  have e : (N : Int) = 9216 := by omega
  rw [e] at h1
  rw [hN] at h1 h2
  exact ⟨C, h1, h2⟩
/-- Two lists made, one behind the other. -/
theorem two_made (W : World) (C D : Array Value) (t : TypeId) (n m : Nat) (h1 : ∀ w : World, Bn (w.alloc (.cells C t)) w.heap.size n (fun _ => false)) (h2 : ∀ w : World, Bn (w.alloc (.cells D t)) w.heap.size m (fun _ => false)) :
    Bn ((W.alloc (.cells C t)).alloc (.cells D t)) W.heap.size n (fun _ => false) ∧ Bn ((W.alloc (.cells C t)).alloc (.cells D t)) (W.heap.size + 1) m (fun _ => false) ∧ Below W.heap.size W ((W.alloc (.cells C t)).alloc (.cells D t)) := by
  refine ⟨(h1 W).below (alloc_below _ _), ?_, q_alloc (alloc_below _ _) _⟩
  have h := h2 (W.alloc (.cells C t))
  rwa [show (W.alloc (.cells C t)).heap.size = W.heap.size + 1 by simp] at h
/-- What a list of bools says of the first q: which keys, which numbers there were. -/
def tkG (ks : List P) (q c : Nat) : Bool := decide (∃ j, j < q ∧ cellK (Kk ks j) = (c : Int))
def plG (is : List Int) (q c : Nat) : Bool := decide (∃ j, j < q ∧ Ii is j = (c : Int))
theorem tk_zero (ks : List P) : tkG ks 0 = fun _ => false := by
  funext c
  simp [tkG]
theorem pl_zero (is : List Int) : plG is 0 = fun _ => false := by
  funext c
  simp [plG]
theorem tk_succ {ks : List P} {q c : Nat} (h : cellK (Kk ks q) = (c : Int)) : tkG ks (q + 1) = fun j => decide (j = c) || tkG ks q j := by
  funext j
  rw [Bool.eq_iff_iff]
  simp only [tkG, decide_eq_true_eq, Bool.or_eq_true]
  constructor
  · rintro ⟨m, hm, e⟩
    rcases Nat.lt_or_ge m q with y | y
    · exact .inr ⟨m, y, e⟩
    · obtain rfl : m = q := by omega
      left
      omega
  · rintro (rfl | ⟨m, hm, e⟩)
    · exact ⟨q, by omega, h⟩
    · exact ⟨m, by omega, e⟩
theorem pl_succ {is : List Int} {q c : Nat} (h : Ii is q = (c : Int)) : plG is (q + 1) = fun j => decide (j = c) || plG is q j := by
  funext j
  rw [Bool.eq_iff_iff]
  simp only [plG, decide_eq_true_eq, Bool.or_eq_true]
  constructor
  · rintro ⟨m, hm, e⟩
    rcases Nat.lt_or_ge m q with y | y
    · exact .inr ⟨m, y, e⟩
    · obtain rfl : m = q := by omega
      left
      omega
  · rintro (rfl | ⟨m, hm, e⟩)
    · exact ⟨q, by omega, h⟩
    · exact ⟨m, by omega, e⟩
def cgE (g : Gt) : Int := if okB g then 0 else 2
theorem cg_no {g : Gt} (h : ¬ Ok g) : cgE g = 2 := by simp [cgE, okB_not.2 h]
theorem cg_yes {g : Gt} (h : Ok g) : cgE g = 0 := by simp [cgE, okB_iff.2 h]
theorem tk_no {g : Gt} {q c : Nat} (hq : q < g.ks.length) (hk : cellK (Kk g.ks q) = (c : Int)) (ho : okK (Kk g.ks q) = true) (h : tkG g.ks q c = true) : ¬ Ok g := fun o => by
  simp only [tkG, decide_eq_true_eq] at h
  obtain ⟨j, hj, e⟩ := h
  exact o.kun j q hj hq (cell_inj (o.key j (by omega)) ho (e.trans hk.symm))
theorem pl_no {g : Gt} {q c : Nat} (hq : q < g.ks.length) (hk : Ii g.is q = (c : Int)) (h : plG g.is q c = true) : ¬ Ok g := fun o => by
  simp only [plG, decide_eq_true_eq] at h
  obtain ⟨j, hj, e⟩ := h
  exact o.iun j q hj hq (e.trans hk.symm)
theorem okp_next {g : Gt} {q c d : Nat} (hk : cellK (Kk g.ks q) = (c : Int)) (ho : okK (Kk g.ks q) = true) (hs : tkG g.ks q c = false) (hi : Ii g.is q = (d : Int)) (hd : d < g.fr.length) (hp : plG g.is q d = false) (h : ∀ j, j < q → OkP g j) : ∀ j, j < q + 1 → OkP g j := fun j hj => by
  rcases Nat.lt_or_ge j q with y | y
  · exact h j y
  · obtain rfl : j = q := by omega
    simp only [tkG, decide_eq_false_iff_not] at hs
    simp only [plG, decide_eq_false_iff_not] at hp
    exact ⟨ho, by omega, by omega, fun m hm => ⟨fun e => hs ⟨m, hm, by rw [e]; exact hk⟩, fun e => hp ⟨m, hm, by rw [e]; exact hi⟩⟩⟩
set_option maxHeartbeats 400000 in
theorem pcheck_len (y : Gv) (w : World) (h : ((y.k.n : Int) != (y.i.n : Int)) = true) : Calls Try.prog 15 #[(.agg #[.slice y.k.o y.k.n y.k.c, .slice y.i.o y.i.n y.i.c, .slice y.f.o y.f.n y.f.c])] w fun e w' => e = .returned (.int .i64 2) ∧ Below w.heap.size w w' := by
  go_enter Try.func15, Try.ntmps15
  go_wp2_with fail
  go_ret
  exact ⟨rfl, alloc_below _ _⟩
set_option maxHeartbeats 400000 in
theorem pcheck_max (y : Gv) (w : World) (h : ((y.k.n : Int) != (y.i.n : Int)) = false) (h2 : 4096 < y.f.n) : Calls Try.prog 15 #[(.agg #[.slice y.k.o y.k.n y.k.c, .slice y.i.o y.i.n y.i.c, .slice y.f.o y.f.n y.f.c])] w fun e w' => e = .returned (.int .i64 2) ∧ Below w.heap.size w w' := by
  have i1 : (y.f.n : Int) > 4096 := by omega
  clear h2
  go_enter Try.func15, Try.ntmps15
  go_wp2_with fail
  go_ret
  exact ⟨rfl, alloc_below _ _⟩
/-- A cell, for a region. -/
abbrev SF (b : Nat) (y : Gv) (w : World) : Prop := w.cell? ⟨b, 2, none⟩ = some (.slice y.f.o y.f.n y.f.c)
theorem sf_alloc {b : Nat} {y : Gv} {w : World} (h : SF b y w) (o : Obj) : SF b y (w.alloc o) := ((alloc_below w o).cell (p := ⟨b, 2, none⟩) (World.block_lt_of_cell? w _ h)).trans h
theorem sf_drew {b : Nat} {y : Gv} {w : World} (h : SF b y w) : SF b y w.drew := h
set_option maxRecDepth 100000 in
set_option maxHeartbeats 4000000 in
theorem pcheck_in (y : Gv) (g : Gt) (w : World) (h1 : y.k.n = y.i.n) (h2 : y.f.n ≤ 4096) (hs : y.k.n ≤ 9223372036854775806) (HH : Hid (HasG w y g)) :
    Calls Try.prog 15 #[(.agg #[.slice y.k.o y.k.n y.k.c, .slice y.i.o y.i.n y.i.c, .slice y.f.o y.f.n y.f.c])] w fun e w' => e = .returned (.int .i64 (cgE g)) ∧ Below w.heap.size w w' := by
  have HNK := hid HH.out.ks.len
  have HNI := hid HH.out.is.len
  have HNF := hid HH.out.fr.len
  have HKI := hid h1
  have e1 : ((y.k.n : Int) != (y.i.n : Int)) = false := by simp [h1]
  have e2 : ¬ (y.f.n : Int) > 4096 := by omega
  have hs2 : y.i.n ≤ 9223372036854775806 := by omega
  clear h1
  go_enter Try.func15, Try.ntmps15
  go_wp2_with fail
  have HG0 := hid (inG_new w y 25)
  have HB0 := hid (alloc_below w (.cells #[.slice y.k.o y.k.n y.k.c, .slice y.i.o y.i.n y.i.c, .slice y.f.o y.f.n y.f.c] 25))
  generalize w.alloc (.cells #[.slice y.k.o y.k.n y.k.c, .slice y.i.o y.i.n y.i.c, .slice y.f.o y.f.n y.f.c] 25) = W0 at HG0 HB0 ⊢
  go_loopw [26] (fun i wr => ∃ q : Nat, q ≤ y.f.n ∧ i = .int .i64 q ∧ Hid (∀ j, j < q → -1 ≤ Ii g.fr j ∧ Ii g.fr j < j) ∧ wr = W0) (fun i _ => y.f.n - (intOf i).toNat)
  case atStart => exact ⟨0, Nat.zero_le _, rfl, fun c hc => absurd hc (by omega), rfl⟩
  case round =>
    obtain ⟨q, hq, rfl, HF, rfl⟩ := hrel
    by_cases hlt : q < y.f.n
    · have i1 : (0 : Int) ≤ (q : Int) := by omega
      have i2 : (q : Int) < (y.f.n : Int) := by omega
      obtain ⟨a, ea, ca⟩ := (HH.out.fr.below HB0.out).cell q hlt
      obtain ⟨x, hx⟩ : ∃ x, g.fr.getD q 0 = x := ⟨_, rfl⟩
      have HX := hid hx
      rw [hx] at ca
      rw [ea]
      clear hx ea
      by_cases d1 : x < -1
      · have HE : Hid (cgE g = 2) := cg_no fun o => by
          have h := (o.fro q (by have := HNF.out; omega)).1
          have h9 : Ii g.fr q = x := HX.out
          omega
        go_wp2_with fail
        go_ret
        exact ⟨ret_int HE.out.symm, HB0.out⟩
      · by_cases d2 : (q : Int) ≤ x
        · have HE : Hid (cgE g = 2) := cg_no fun o => by
            have h := (o.fro q (by have := HNF.out; omega)).2
            have h9 : Ii g.fr q = x := HX.out
            omega
          have d3 : x ≥ (q : Int) := d2
          go_wp2_with fail
          go_ret
          exact ⟨ret_int HE.out.symm, HB0.out⟩
        · have d3 : ¬ x ≥ (q : Int) := d2
          go_wp2_with fail
          go_roundw
          case rel =>
            refine ⟨q + 1, by omega, by go_num, fun j hj => ?_, trivial⟩
            rcases Nat.lt_or_ge j q with z | z
            · exact HF.out j z
            · obtain rfl : j = q := by omega
              have h9 : Ii g.fr j = x := HX.out
              omega
          case measure => simp [intOf]; omega
    · obtain rfl : q = y.f.n := by omega
      obtain ⟨C, mk1, hC⟩ := make_B9
      obtain ⟨D, mk2, hD⟩ := make_B y.f.n (by omega)
      have HC := hid hC
      have HD := hid hD
      clear hC hD
      obtain ⟨c0, c1, c2⟩ := HG0.out
      go_upto_region 9 with fail
      have hS : SF w.heap.size y wr := c2
      go_cut [5, 6] from 39 to 43 (fun s5 s6 wx => ∃ d e : Nat, s5 = .slice (some ⟨d, 0, none⟩) 9216 9216 ∧ s6 = .slice (some ⟨e, 0, none⟩) y.f.n y.f.n ∧ Hid (d ≠ e ∧ wr.heap.size ≤ d ∧ wr.heap.size ≤ e) ∧ Hid (Bn wx d 9216 (fun _ => false)) ∧ Hid (Bn wx e y.f.n (fun _ => false)) ∧ Hid (Below wr.heap.size wr wx))
      case first =>
        go_region_held3 (SF w.heap.size y) (first | with_reducible assumption | with_reducible exact sf_alloc hS _ | with_reducible exact sf_drew (sf_alloc hS _) | with_reducible exact sf_drew hS | with_reducible exact sf_alloc (sf_drew hS) _ | with_reducible exact sf_drew (sf_alloc (sf_alloc hS _) _) | with_reducible exact sf_alloc (sf_alloc hS _) _ | with_reducible exact sf_alloc (sf_alloc (sf_drew hS) _) _ | fail) (fail)
        all_goals (try go_wp2_with fail)
        all_goals go_meet
        all_goals first
          | exact ⟨wr.heap.size, wr.heap.size + 1, rfl, rfl, ⟨by omega, by omega, by omega⟩, bn_drew (two_made wr C D 4 _ _ HC.out HD.out).1, bn_drew (two_made wr C D 4 _ _ HC.out HD.out).2.1, (two_made wr C D 4 _ _ HC.out HD.out).2.2.drew⟩
          | exact ⟨wr.heap.size + 1, wr.heap.size, rfl, rfl, ⟨by omega, by omega, by omega⟩, bn_drew (two_made wr D C 4 _ _ HD.out HC.out).2.1, bn_drew (two_made wr D C 4 _ _ HD.out HC.out).1, (two_made wr D C 4 _ _ HD.out HC.out).2.2.drew⟩
      case rest =>
        obtain ⟨d, e, rfl, rfl, HDE, HT0, HP0, HBc⟩ := hcut
        have HGc := hid (HG0.out.below HBc.out)
        clear mk1 mk2 HC HD c0 c1 c2 hS hlt hq
        obtain ⟨c0, c1, c2⟩ := HGc.out
        go_wp2_with fail
        obtain ⟨wb, hwb⟩ : ∃ wb, wb = wr := ⟨_, rfl⟩
        subst hwb
        go_loopw [47] (fun i wq => ∃ q : Nat, q ≤ y.i.n ∧ i = .int .i64 q ∧ Hid (∀ j, j < q → OkP g j) ∧ Hid (Bn wq d 9216 (tkG g.ks q)) ∧ Hid (Bn wq e y.f.n (plG g.is q)) ∧ Hid (Below wb.heap.size wb wq)) (fun i _ => y.i.n - (intOf i).toNat)
        case atStart => exact ⟨0, Nat.zero_le _, rfl, fun c hc => absurd hc (by omega), by rw [tk_zero]; exact HT0, by rw [pl_zero]; exact HP0, HBc⟩
        case round =>
          obtain ⟨q, hq, rfl, HO, HT, HP, HBq⟩ := hrel
          clear HT0 HP0 HBc HGc c0 c1 c2
          have HBw := hid (q_trans HB0.out HBq.out)
          have HGq := hid (HG0.out.below HBq.out)
          obtain ⟨c0, c1, c2⟩ := HGq.out
          by_cases hlt : q < y.i.n
          · have i1 : (0 : Int) ≤ (q : Int) := by omega
            have i2 : (q : Int) < (y.i.n : Int) := by omega
            have hlk : q < y.k.n := by have := HKI.out; omega
            have i3 : (q : Int) < (y.k.n : Int) := by omega
            have HQ : Hid (q < g.ks.length) := by have := HNK.out; unfold Hid; omega
            obtain ⟨a, ea, ca⟩ := (HH.out.is.below HBw.out).cell q hlt
            obtain ⟨a2, ea2, ca2⟩ := (HH.out.ks.below HBw.out).at q hlk
            obtain ⟨x, hx⟩ : ∃ x, g.is.getD q 0 = x := ⟨_, rfl⟩
            obtain ⟨k, hk0⟩ : ∃ k, g.ks.getD q (0, 0) = k := ⟨_, rfl⟩
            have HX : Hid (Ii g.is q = x) := hx
            have HK : Hid (Kk g.ks q = k) := hk0
            rw [hx] at ca
            rw [hk0] at ca2
            obtain ⟨k0, k1⟩ := ca2
            rw [ea2] at c0
            rw [ea]
            clear hx hk0 ea ea2
            go_wp2_with fail
            refine (ocell_any k _).mono ?_
            rintro e9 w2 ⟨rfl, b2⟩
            have HB2 := hid (q_trans HBq.out b2)
            have HT2 := hid (HT.out.below b2)
            have HP2 := hid (HP.out.below b2)
            have HBE := hid (q_trans HB0.out HB2.out)
            clear b2 c0 c1 c2 k0 k1 ca HGq HBq HBw HT HP
            cases hk : okK k with
            | false =>
              rw [cell_no hk]
              have HE : Hid (cgE g = 2) := cg_no fun o => by
                have h := o.key q HQ.out
                rw [HK.out, hk] at h
                cases h
              clear hk
              go_wp2_with fail
              go_ret
              exact ⟨ret_int HE.out.symm, HBE.out⟩
            | true =>
              have hr := cell_range hk
              obtain ⟨c, hc⟩ : ∃ c : Nat, cellK k = c := ⟨(cellK k).toNat, by omega⟩
              have hc1 : c < 9216 := by omega
              have hc2 : (0 : Int) ≤ (c : Int) := by omega
              have hc3 : (c : Int) < 9216 := by omega
              have hc4 : ¬ (c : Int) < 0 := by omega
              have HKo : Hid (okK (Kk g.ks q) = true) := by unfold Hid; rw [HK.out]; exact hk
              have HKc : Hid (cellK (Kk g.ks q) = (c : Int)) := by unfold Hid; rw [HK.out]; exact hc
              rw [hc]
              have cc := HT2.out.cell c hc1
              have cf := HT2.out.free c hc1
              clear hr hc hk
              cases hsn : tkG g.ks q c with
              | true =>
                rw [hsn] at cc
                have HE := hid (cg_no (tk_no HQ.out HKc.out HKo.out hsn))
                clear hsn
                go_wp2_with fail
                go_ret
                exact ⟨ret_int HE.out.symm, HBE.out⟩
              | false =>
                rw [hsn] at cc
                have HSn := hid hsn
                clear hsn
                by_cases hd1 : x < 0
                · have HE : Hid (cgE g = 2) := cg_no fun o => by
                    have h := (o.idr q HQ.out).1
                    rw [HX.out] at h
                    omega
                  go_wp2_with fail
                  go_ret
                  exact ⟨ret_int HE.out.symm, HBE.out⟩
                · by_cases hd2 : (y.f.n : Int) ≤ x
                  · have HE : Hid (cgE g = 2) := cg_no fun o => by
                      have h := (o.idr q HQ.out).2
                      rw [HX.out] at h
                      have := HNF.out
                      omega
                    have hd3 : x ≥ (y.f.n : Int) := hd2
                    go_wp2_with fail
                    go_ret
                    exact ⟨ret_int HE.out.symm, HBE.out⟩
                  · obtain ⟨v, rfl⟩ : ∃ v : Nat, x = v := ⟨x.toNat, by omega⟩
                    have hd3 : ¬ (v : Int) ≥ (y.f.n : Int) := hd2
                    have hv0 : ¬ (v : Int) < 0 := by omega
                    have hv1 : (0 : Int) ≤ (v : Int) := by omega
                    have hv2 : (v : Int) < (y.f.n : Int) := by omega
                    have hv3 : v < y.f.n := by omega
                    have pc := HP2.out.cell v hv3
                    have pf := HP2.out.free v hv3
                    clear hd1 hd2
                    cases hpn : plG g.is q v with
                    | true =>
                      rw [hpn] at pc
                      have HE := hid (cg_no (pl_no HQ.out HX.out hpn))
                      clear hpn
                      go_wp2_with fail
                      go_ret
                      exact ⟨ret_int HE.out.symm, HBE.out⟩
                    | false =>
                      rw [hpn] at pc
                      have HO2 := hid (okp_next HKc.out HKo.out HSn.out HX.out (by have := HNF.out; omega) hpn HO.out)
                      have HT3 := hid ((bn_set HT2.out hc1).other (d := e) (j := v) (.bool true) HDE.out.1)
                      have HP3 := hid (bn_set (HP2.out.other (d := d) (j := c) (.bool true) (Ne.symm HDE.out.1)) hv3)
                      rw [← tk_succ HKc.out] at HT3
                      rw [← pl_succ HX.out] at HP3
                      have HB3 := hid (q_set (q_set HB2.out (p := ⟨d, c, none⟩) HDE.out.2.1 (.bool true)) (p := ⟨e, v, none⟩) HDE.out.2.2 (.bool true))
                      have hne1 : d ≠ e := HDE.out.1
                      clear hpn
                      go_wp2_with fail
                      go_roundw
                      case rel => exact ⟨q + 1, by omega, by go_num, HO2, HT3, HP3, HB3⟩
                      case measure => simp [intOf]; omega
          · obtain rfl : q = y.i.n := by omega
            have HE := hid (cg_yes (ok_of (g := g) (by have := HNK.out; have := HNI.out; have := HKI.out; omega) (by have := HNF.out; omega) (fun i hi => HF.out i (by have := HNF.out; omega)) (fun i hi => HO.out i (by have := HNK.out; have := HKI.out; omega))))
            go_wp2_with fail
            go_ret
            exact ⟨ret_int HE.out.symm, HBw.out⟩
/-- CHECK, OF WHATEVER GHOST. -/
theorem pcheck_any (y : Gv) (g : Gt) (w : World) (hs : y.k.n ≤ 9223372036854775806) (h : HasG w y g) :
    Calls Try.prog 15 #[(.agg #[.slice y.k.o y.k.n y.k.c, .slice y.i.o y.i.n y.i.c, .slice y.f.o y.f.n y.f.c])] w fun e w' => e = .returned (.int .i64 (cgE g)) ∧ Below w.heap.size w w' := by
  have l1 := h.ks.len
  have l2 := h.is.len
  have l3 := h.fr.len
  by_cases e1 : y.k.n = y.i.n
  · by_cases e2 : y.f.n ≤ 4096
    · exact pcheck_in y g w e1 e2 hs h
    · rw [cg_no fun o => by have := o.max; omega]
      exact pcheck_max y w (by simp [e1]) (by omega)
  · rw [cg_no fun o => by have := o.len; omega]
    exact pcheck_len y w (by simp; omega)
end Go.Proofs.Ytcldnacpddebcaa.Gh
