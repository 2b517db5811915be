/- What live does, over the program's contracts. -/
import Derived.Test.YtejghoncihdfkaaEpDoes
namespace Go.Proofs.Ytejghoncihdfkaa.Ep
open Go.RowKit

section
variable {e f : E} {n m c ob q : Int} {b : Bool}
theorem k_new (K : Con) (hn : (newA n).now = m) (hq : newE n = q) (hf : newA n = f) (Av : Nat → Prop) (w : World) (hA : Hid (∀ i, Av i → i < w.heap.size)) :
    Calls Try.prog 13 #[.int .i64 n] w fun r w' => ∃ z : WE, r = .returned (.tuple #[(.agg #[.int .i64 m, .slice z.p.o z.p.n z.p.c, .slice z.l.o z.l.n z.l.c]), .int .i64 q]) ∧ HasE w' Av z f ∧ Below w.heap.size w w' := by
  subst hn hq hf; exact K.new n Av w hA
theorem k_pin (K : Con) (hn : e.now = n) (hq : pinE e c = q) (hf : pinA e c = f) (y : WE) (Av : Nat → Prop) (w : World) (hA : Hid (∀ i, Av i → i < w.heap.size)) (HS : Hid (Sm e)) (HE : Hid (HasE w Av y e)) :
    Calls Try.prog 25 #[(.agg #[.int .i64 n, .slice y.p.o y.p.n y.p.c, .slice y.l.o y.l.n y.l.c]), .int .i64 c] w fun r w' => ∃ z : WE, r = .returned (.tuple #[(.agg #[.int .i64 n, .slice z.p.o z.p.n z.p.c, .slice z.l.o z.l.n z.l.c]), .int .i64 q]) ∧ HasE w' Av z f ∧ Below w.heap.size w w' := by
  subst hn hq hf; exact K.pin y e c Av w hA HS HE
theorem k_un (K : Con) (hn : e.now = n) (hq : unE e c = q) (hf : unA e c = f) (y : WE) (Av : Nat → Prop) (w : World) (hA : Hid (∀ i, Av i → i < w.heap.size)) (HS : Hid (Sm e)) (HE : Hid (HasE w Av y e)) :
    Calls Try.prog 21 #[(.agg #[.int .i64 n, .slice y.p.o y.p.n y.p.c, .slice y.l.o y.l.n y.l.c]), .int .i64 c] w fun r w' => ∃ z : WE, r = .returned (.tuple #[(.agg #[.int .i64 n, .slice z.p.o z.p.n z.p.c, .slice z.l.o z.l.n z.l.c]), .int .i64 q]) ∧ HasE w' Av z f ∧ Below w.heap.size w w' := by
  subst hn hq hf; exact K.un y e c Av w hA HS HE
theorem k_re (K : Con) (hn : e.now = n) (hq : reE e c ob = q) (hf : reA e c ob = f) (y : WE) (Av : Nat → Prop) (w : World) (hA : Hid (∀ i, Av i → i < w.heap.size)) (HS : Hid (Sm e)) (HE : Hid (HasE w Av y e)) :
    Calls Try.prog 24 #[(.agg #[.int .i64 n, .slice y.p.o y.p.n y.p.c, .slice y.l.o y.l.n y.l.c]), .int .i64 c, .int .i64 ob] w fun r w' => ∃ z : WE, r = .returned (.tuple #[(.agg #[.int .i64 n, .slice z.p.o z.p.n z.p.c, .slice z.l.o z.l.n z.l.c]), .int .i64 q]) ∧ HasE w' Av z f ∧ Below w.heap.size w w' := by
  subst hn hq hf; exact K.re y e c ob Av w hA HS HE
theorem k_ad (K : Con) (hn : e.now = n) (hm : (adA e).now = m) (hq : adB e = b) (hf : adA e = f) (y : WE) (Av : Nat → Prop) (w : World) (hA : Hid (∀ i, Av i → i < w.heap.size)) (HS : Hid (Sm e)) (HE : Hid (HasE w Av y e)) :
    Calls Try.prog 22 #[(.agg #[.int .i64 n, .slice y.p.o y.p.n y.p.c, .slice y.l.o y.l.n y.l.c])] w fun r w' => ∃ z : WE, r = .returned (.tuple #[(.agg #[.int .i64 m, .slice z.p.o z.p.n z.p.c, .slice z.l.o z.l.n z.l.c]), .bool b]) ∧ HasE w' Av z f ∧ Below w.heap.size w w' := by
  subst hn hq hf hm; exact K.ad y e Av w hA HS HE
theorem k_rp (K : Con) {l : List Int} {k : Nat} (hn : e.now = n) (hl : rpL e c = l) (hk : l.length = k) (hf : rpA e c = f) (y : WE) (Av : Nat → Prop) (w : World) (hA : Hid (∀ i, Av i → i < w.heap.size)) (HS : Hid (Sm e)) (HE : Hid (HasE w Av y e)) :
    Calls Try.prog 23 #[(.agg #[.int .i64 n, .slice y.p.o y.p.n y.p.c, .slice y.l.o y.l.n y.l.c]), .int .i64 c] w fun r w' => ∃ (z : WE) (o : Option Addr) (cp : Nat), r = .returned (.tuple #[(.agg #[.int .i64 n, .slice z.p.o z.p.n z.p.c, .slice z.l.o z.l.n z.l.c]), .slice o k cp]) ∧ HasE w' Av z f ∧ Has w' o k cp l ∧ Off Av o (vals l) ∧ Below w.heap.size w w' := by
  subst hn hl hf hk; exact K.rp y e c Av w hA HS HE
theorem k_same (K : Con) (hn : e.now = n) (hm : f.now = m) (hb : sameB e f = b) (y z : WE) (Av Av' : Nat → Prop) (w : World) (HS : Hid (Sm e)) (HT : Hid (Sm f)) (HE : Hid (HasE w Av y e)) (HF : Hid (HasE w Av' z f)) :
    Calls Try.prog 20 #[(.agg #[.int .i64 n, .slice y.p.o y.p.n y.p.c, .slice y.l.o y.l.n y.l.c]), (.agg #[.int .i64 m, .slice z.p.o z.p.n z.p.c, .slice z.l.o z.l.n z.l.c])] w fun r w' => r = .returned (.bool b) ∧ Below w.heap.size w w' := by
  subst hn hm hb; exact K.same y z e f Av Av' w HS HT HE HF
theorem k_check (K : Con) (hn : e.now = n) (ho : okE e = true) (y : WE) (Av : Nat → Prop) (w : World) (HS : Hid (Sm e)) (HE : Hid (HasE w Av y e)) :
    Calls Try.prog 18 #[(.agg #[.int .i64 n, .slice y.p.o y.p.n y.p.c, .slice y.l.o y.l.n y.l.c])] w fun r w' => r = .returned (.int .i64 0) ∧ Below w.heap.size w w' := by
  subst hn
  refine (K.check y e Av w HS HE).mono ?_
  rintro r w' ⟨⟨k, rfl, hk⟩, hb⟩
  rw [ho] at hk
  rw [of_decide_eq_true hk]
  exact ⟨rfl, hb⟩
end

def L0 : E := ⟨1, [0, 0], [[], []]⟩
def L1 : E := ⟨1, [2, 0], [[], []]⟩
def L2 : E := ⟨1, [2, 0], [[], [(5, 1)]]⟩
def L3 : E := ⟨2, [2, 0], [[], [(5, 1)]]⟩
def L4 : E := ⟨2, [0, 0], [[], [(5, 1)]]⟩
def L5 : E := ⟨3, [0, 0], [[], [(5, 1)]]⟩
def L6 : E := ⟨3, [0, 0], [[], []]⟩
theorem l_ok0 : okE L0 = true := by decide
theorem l_ok1 : okE L1 = true := by decide
theorem l_ok2 : okE L2 = true := by decide
theorem l_ok3 : okE L3 = true := by decide
theorem l_ok4 : okE L4 = true := by decide
theorem l_ok5 : okE L5 = true := by decide
theorem l_ok6 : okE L6 = true := by decide
theorem sm_of {e : E} (h : okE e = true) : Hid (Sm e) := sm_ok (ok_iff.1 h)
theorem av_lt {w : World} {b : Nat} {n : Int} {y : WE} (h : InE w b n y) : Hid (∀ i, (False ∨ i = b) → i < w.heap.size) := by
  intro i s
  rcases s with s | s
  · exact s.elim
  · exact s ▸ h.lt

theorem has_one (w : World) (v : Int) (T : TypeId) : Has (w.alloc (.cells #[.int .i64 v] T)) (some ⟨w.heap.size, 0, none⟩) 1 1 [v] := by
  refine ⟨rfl, fun h => (by cases h), Nat.le_refl _, ⟨fun j u hu => ⟨_, rfl, ?_⟩⟩⟩
  cases j with
  | zero =>
    obtain rfl : Value.int .i64 v = u := by simpa using hu
    simp [Addr.add]
  | succ j => simp at hu

set_option maxRecDepth 100000 in
set_option maxHeartbeats 4000000 in
/-- LIVE IS TRUE. -/
theorem live_any (K : Con) (w : World) : Calls Try.prog 10 #[] w fun r w' => r = .returned (.bool true) ∧ Below w.heap.size w w' := by
  have C0 := hid (fun (W : World) => k_new K (n := 2) (m := 1) (q := 0) (f := L0) (by kernel_rfl) (by kernel_rfl) (by kernel_rfl) (fun _ => False) W (fun _ h => h.elim))
  have C1 := hid (fun (W : World) (B : Nat) (y : WE) (h : Be W (fun _ => False) B y L0) => k_pin K (e := L0) (n := 1) (c := 0) (q := 0) (f := L1) rfl (by kernel_rfl) (by kernel_rfl) y (fun i => False ∨ i = B) W (av_lt h.box) (sm_of l_ok0) h.has)
  have C2 := hid (fun (W : World) (B : Nat) (y : WE) (h : Be W (fun _ => False) B y L1) => k_re K (e := L1) (n := 1) (c := 1) (ob := 5) (q := 0) (f := L2) rfl (by kernel_rfl) (by kernel_rfl) y (fun i => False ∨ i = B) W (av_lt h.box) (sm_of l_ok1) h.has)
  have C3 := hid (fun (W : World) (B : Nat) (y : WE) (h : Be W (fun _ => False) B y L2) => k_ad K (e := L2) (n := 1) (m := 2) (b := true) (f := L3) rfl (by kernel_rfl) (by kernel_rfl) (by kernel_rfl) y (fun i => False ∨ i = B) W (av_lt h.box) (sm_of l_ok2) h.has)
  have C4 := hid (fun (W : World) (B : Nat) (y : WE) (h : Be W (fun _ => False) B y L3) => k_ad K (e := L3) (n := 2) (m := 2) (b := false) (f := L3) rfl (by kernel_rfl) (by kernel_rfl) (by kernel_rfl) y (fun i => False ∨ i = B) W (av_lt h.box) (sm_of l_ok3) h.has)
  have C5 := hid (fun (W : World) (B : Nat) (y : WE) (h : Be W (fun _ => False) B y L3) => k_un K (e := L3) (n := 2) (c := 0) (q := 0) (f := L4) rfl (by kernel_rfl) (by kernel_rfl) y (fun i => False ∨ i = B) W (av_lt h.box) (sm_of l_ok3) h.has)
  have C6 := hid (fun (W : World) (B : Nat) (y : WE) (h : Be W (fun _ => False) B y L4) => k_ad K (e := L4) (n := 2) (m := 3) (b := true) (f := L5) rfl (by kernel_rfl) (by kernel_rfl) (by kernel_rfl) y (fun i => False ∨ i = B) W (av_lt h.box) (sm_of l_ok4) h.has)
  have C7 := hid (fun (W : World) (B : Nat) (y : WE) (h : Be W (fun _ => False) B y L5) => k_rp K (e := L5) (n := 3) (c := 1) (l := [5]) (k := 1) (f := L6) rfl (by kernel_rfl) rfl (by kernel_rfl) y (fun i => False ∨ i = B) W (av_lt h.box) (sm_of l_ok5) h.has)
  have C8 := hid (fun (W : World) => k_new K (n := 0) (m := 0) (q := 2) (f := newA 0) (by kernel_rfl) (by kernel_rfl) rfl (fun _ => False) W (fun _ h => h.elim))
  go_enter Try.func10, Try.ntmps10
  go_wp2_with fail
  refine (C0.out _).mono ?_
  rintro r w1 ⟨y, rfl, h0, b0⟩
  have HE : Hid (Be (w1.alloc (.cells #[.int .i64 1, .slice y.p.o y.p.n y.p.c, .slice y.l.o y.l.n y.l.c] 25)) (fun _ => False) w1.heap.size y L0) := be_new 25 h0
  have HW := hid (q_alloc b0 (.cells #[.int .i64 1, .slice y.p.o y.p.n y.p.c, .slice y.l.o y.l.n y.l.c] 25))
  have HB0 : w.heap.size ≤ w1.heap.size := b0.size
  clear h0 b0
  go_wp2_with fail
  generalize w1.heap.size = B at HE HB0 ⊢
  generalize w1.alloc (.cells #[.int .i64 1, .slice y.p.o y.p.n y.p.c, .slice y.l.o y.l.n y.l.c] 25) = W at HE HW ⊢
  refine (C1.out _ _ _ HE.out).mono ?_
  rintro r v ⟨z, rfl, hz, b⟩
  replace HE := hid (HE.out.below b)
  replace HW := hid (q_trans HW.out b)
  have HP : Hid (Be (((v.setCell ⟨B, 0, none⟩ (.int .i64 1)).setCell ⟨B, 1, none⟩ (.slice z.p.o z.p.n z.p.c)).setCell ⟨B, 2, none⟩ (.slice z.l.o z.l.n z.l.c)) (fun _ => False) B z L1) := Be.put (f := L1) HE.out hz
  have HV := hid (fin_lowR HW.out HB0 (.int .i64 1) (.slice z.p.o z.p.n z.p.c) (.slice z.l.o z.l.n z.l.c))
  obtain ⟨x0, x1, x2, xf⟩ := HE.out.box
  clear hz b
  go_wp2_with fail
  clear x0 x1 x2 xf HE HW W
  generalize (((v.setCell ⟨B, 0, none⟩ (.int .i64 1)).setCell ⟨B, 1, none⟩ (.slice z.p.o z.p.n z.p.c)).setCell ⟨B, 2, none⟩ (.slice z.l.o z.l.n z.l.c)) = W at HP HV ⊢
  have HE := HP
  have HW := HV
  clear HP HV v
  refine (C2.out _ _ _ HE.out).mono ?_
  rintro r v ⟨z, rfl, hz, b⟩
  replace HE := hid (HE.out.below b)
  replace HW := hid (q_trans HW.out b)
  have HP : Hid (Be (((v.setCell ⟨B, 0, none⟩ (.int .i64 1)).setCell ⟨B, 1, none⟩ (.slice z.p.o z.p.n z.p.c)).setCell ⟨B, 2, none⟩ (.slice z.l.o z.l.n z.l.c)) (fun _ => False) B z L2) := Be.put (f := L2) HE.out hz
  have HV := hid (fin_lowR HW.out HB0 (.int .i64 1) (.slice z.p.o z.p.n z.p.c) (.slice z.l.o z.l.n z.l.c))
  obtain ⟨x0, x1, x2, xf⟩ := HE.out.box
  clear hz b
  go_wp2_with fail
  clear x0 x1 x2 xf HE HW W
  generalize (((v.setCell ⟨B, 0, none⟩ (.int .i64 1)).setCell ⟨B, 1, none⟩ (.slice z.p.o z.p.n z.p.c)).setCell ⟨B, 2, none⟩ (.slice z.l.o z.l.n z.l.c)) = W at HP HV ⊢
  have HE := HP
  have HW := HV
  clear HP HV v
  refine (C3.out _ _ _ HE.out).mono ?_
  rintro r v ⟨z, rfl, hz, b⟩
  replace HE := hid (HE.out.below b)
  replace HW := hid (q_trans HW.out b)
  have HP : Hid (Be (((v.setCell ⟨B, 0, none⟩ (.int .i64 2)).setCell ⟨B, 1, none⟩ (.slice z.p.o z.p.n z.p.c)).setCell ⟨B, 2, none⟩ (.slice z.l.o z.l.n z.l.c)) (fun _ => False) B z L3) := Be.put (f := L3) HE.out hz
  have HV := hid (fin_lowR HW.out HB0 (.int .i64 2) (.slice z.p.o z.p.n z.p.c) (.slice z.l.o z.l.n z.l.c))
  obtain ⟨x0, x1, x2, xf⟩ := HE.out.box
  clear hz b
  go_wp2_with fail
  clear x0 x1 x2 xf HE HW W
  generalize (((v.setCell ⟨B, 0, none⟩ (.int .i64 2)).setCell ⟨B, 1, none⟩ (.slice z.p.o z.p.n z.p.c)).setCell ⟨B, 2, none⟩ (.slice z.l.o z.l.n z.l.c)) = W at HP HV ⊢
  have HE := HP
  have HW := HV
  clear HP HV v
  refine (C4.out _ _ _ HE.out).mono ?_
  rintro r v ⟨z, rfl, hz, b⟩
  replace HE := hid (HE.out.below b)
  replace HW := hid (q_trans HW.out b)
  obtain ⟨x0, x1, x2, xf⟩ := HE.out.box
  have hlt : B < v.heap.size := HE.out.box.lt
  have HV := hid (HE.out.below (alloc_below v (.cells #[.int .i64 2, .slice z.p.o z.p.n z.p.c, .slice z.l.o z.l.n z.l.c] 25)))
  have HU := hid (q_alloc HW.out (.cells #[.int .i64 2, .slice z.p.o z.p.n z.p.c, .slice z.l.o z.l.n z.l.c] 25))
  clear hz b W
  go_wp2_with fail
  clear x0 x1 x2 xf hlt HE HW
  generalize v.heap.size = F at ⊢
  generalize v.alloc (.cells #[.int .i64 2, .slice z.p.o z.p.n z.p.c, .slice z.l.o z.l.n z.l.c] 25) = W at HV HU ⊢
  have HE := HV
  have HW := HU
  clear HV HU v
  refine (C5.out _ _ _ HE.out).mono ?_
  rintro r v ⟨z, rfl, hz, b⟩
  replace HE := hid (HE.out.below b)
  replace HW := hid (q_trans HW.out b)
  have HP : Hid (Be (((v.setCell ⟨B, 0, none⟩ (.int .i64 2)).setCell ⟨B, 1, none⟩ (.slice z.p.o z.p.n z.p.c)).setCell ⟨B, 2, none⟩ (.slice z.l.o z.l.n z.l.c)) (fun _ => False) B z L4) := Be.put (f := L4) HE.out hz
  have HV := hid (fin_lowR HW.out HB0 (.int .i64 2) (.slice z.p.o z.p.n z.p.c) (.slice z.l.o z.l.n z.l.c))
  obtain ⟨x0, x1, x2, xf⟩ := HE.out.box
  clear hz b
  go_wp2_with fail
  clear x0 x1 x2 xf HE HW W
  generalize (((v.setCell ⟨B, 0, none⟩ (.int .i64 2)).setCell ⟨B, 1, none⟩ (.slice z.p.o z.p.n z.p.c)).setCell ⟨B, 2, none⟩ (.slice z.l.o z.l.n z.l.c)) = W at HP HV ⊢
  have HE := HP
  have HW := HV
  clear HP HV v
  refine (C6.out _ _ _ HE.out).mono ?_
  rintro r v ⟨z, rfl, hz, b⟩
  replace HE := hid (HE.out.below b)
  replace HW := hid (q_trans HW.out b)
  have HP : Hid (Be (((v.setCell ⟨B, 0, none⟩ (.int .i64 3)).setCell ⟨B, 1, none⟩ (.slice z.p.o z.p.n z.p.c)).setCell ⟨B, 2, none⟩ (.slice z.l.o z.l.n z.l.c)) (fun _ => False) B z L5) := Be.put (f := L5) HE.out hz
  have HV := hid (fin_lowR HW.out HB0 (.int .i64 3) (.slice z.p.o z.p.n z.p.c) (.slice z.l.o z.l.n z.l.c))
  obtain ⟨x0, x1, x2, xf⟩ := HE.out.box
  clear hz b
  go_wp2_with fail
  clear x0 x1 x2 xf HE HW W
  generalize (((v.setCell ⟨B, 0, none⟩ (.int .i64 3)).setCell ⟨B, 1, none⟩ (.slice z.p.o z.p.n z.p.c)).setCell ⟨B, 2, none⟩ (.slice z.l.o z.l.n z.l.c)) = W at HP HV ⊢
  have HE := HP
  have HW := HV
  clear HP HV v
  refine (C7.out _ _ _ HE.out).mono ?_
  rintro r v ⟨z7, o7, k7, rfl, hz, hl, _, b⟩
  replace HE := hid (HE.out.below b)
  replace HW := hid (q_trans HW.out b)
  obtain ⟨x0, x1, x2, xf⟩ := HE.out.box
  have hlt : B < v.heap.size := HE.out.box.lt
  have HF : Hid (Be (v.alloc (.cells #[.int .i64 3, .slice z7.p.o z7.p.n z7.p.c, .slice z7.l.o z7.l.n z7.l.c] 25)) (fun _ => False) v.heap.size z7 L6) := be_new (e := L6) 25 (hz.less (fun _ s => .inl s))
  have HL := hid (hl.below (alloc_below v (.cells #[.int .i64 3, .slice z7.p.o z7.p.n z7.p.c, .slice z7.l.o z7.l.n z7.l.c] 25)))
  have HV := hid (HE.out.below (alloc_below v (.cells #[.int .i64 3, .slice z7.p.o z7.p.n z7.p.c, .slice z7.l.o z7.l.n z7.l.c] 25)))
  have HU := hid (q_alloc HW.out (.cells #[.int .i64 3, .slice z7.p.o z7.p.n z7.p.c, .slice z7.l.o z7.l.n z7.l.c] 25))
  have HBF : Hid (B ≠ v.heap.size) := Nat.ne_of_lt hlt
  clear hz hl b W
  go_wp2_with fail
  clear x0 x1 x2 xf hlt HE HW
  generalize v.heap.size = F at HF HBF ⊢
  generalize v.alloc (.cells #[.int .i64 3, .slice z7.p.o z7.p.n z7.p.c, .slice z7.l.o z7.l.n z7.l.c] 25) = W at HF HL HV HU ⊢
  have HE := HV
  have HW := HU
  clear HV HU v
  refine (C8.out _).mono ?_
  rintro r v ⟨z8, rfl, h8, b⟩
  clear h8
  replace HE := hid (HE.out.below b)
  replace HW := hid (q_trans HW.out b)
  replace HF := hid (HF.out.below b)
  replace HL := hid (HL.out.below b)
  have HV := hid (HE.out.below (alloc_below v (.cells #[.int .i64 0, .slice z8.p.o z8.p.n z8.p.c, .slice z8.l.o z8.l.n z8.l.c] 25)))
  have HU := hid (q_alloc HW.out (.cells #[.int .i64 0, .slice z8.p.o z8.p.n z8.p.c, .slice z8.l.o z8.l.n z8.l.c] 25))
  have HG := hid (HF.out.below (alloc_below v (.cells #[.int .i64 0, .slice z8.p.o z8.p.n z8.p.c, .slice z8.l.o z8.l.n z8.l.c] 25)))
  have HM := hid (HL.out.below (alloc_below v (.cells #[.int .i64 0, .slice z8.p.o z8.p.n z8.p.c, .slice z8.l.o z8.l.n z8.l.c] 25)))
  clear b W HE HW HF HL
  go_wp2_with fail
  generalize v.heap.size = G at ⊢
  generalize v.alloc (.cells #[.int .i64 0, .slice z8.p.o z8.p.n z8.p.c, .slice z8.l.o z8.l.n z8.l.c] 25) = W at HV HU HG HM ⊢
  clear v
  obtain ⟨x0, x1, x2, xf⟩ := HV.out.box
  obtain ⟨f0, f1, f2, ff⟩ := HG.out.box
  refine (num_any 0 _).mono ?_
  rintro r w' ⟨rfl, hw⟩
  rw [hw]
  clear hw w'
  go_wp2_with (first | (go_at_call 17; refine (num_any _ _).mono ?_; rintro r w8 ⟨rfl, hw⟩; rw [hw]; clear hw w8))
  refine (ints_yes _ _ _ _ _ [5] _ (by decide) (HM.out.below (alloc_below _ _)) (has_one W 5 3)).mono ?_
  rintro r w9 ⟨rfl, b9⟩
  have HV2 := hid ((HV.out.below (alloc_below _ _)).below b9)
  have HG2 := hid ((HG.out.below (alloc_below _ _)).below b9)
  have HU2 := hid (q_trans (q_alloc HU.out _) b9)
  clear x0 x1 x2 xf f0 f1 f2 ff HV HG HU HM b9
  obtain ⟨x0, x1, x2, xf⟩ := HV2.out.box
  obtain ⟨f0, f1, f2, ff⟩ := HG2.out.box
  have c0 : w9.cell? ⟨F, 0, none⟩ = some (.int .i64 3) := f0
  go_wp2_with (first | (go_at_call 17; refine (num_any _ _).mono ?_; rintro r w8 ⟨rfl, hw⟩; rw [hw]; clear hw w8))
  refine (k_check K (e := L5) rfl l_ok5 _ _ _ (sm_of l_ok5) HV2.out.has).mono ?_
  rintro r w10 ⟨rfl, b10⟩
  have HV3 := hid (HV2.out.below b10)
  have HG3 := hid (HG2.out.below b10)
  have HU3 := hid (q_trans HU2.out b10)
  clear c0 x0 x1 x2 xf f0 f1 f2 ff HV2 HG2 HU2 b10
  obtain ⟨x0, x1, x2, xf⟩ := HV3.out.box
  obtain ⟨f0, f1, f2, ff⟩ := HG3.out.box
  go_wp2_with (first | (go_at_call 17; refine (num_any _ _).mono ?_; rintro r w8 ⟨rfl, hw⟩; rw [hw]; clear hw w8))
  refine (k_same K (e := L5) (f := L5) (b := true) rfl rfl (by kernel_rfl) _ _ _ _ _ (sm_of l_ok5) (sm_of l_ok5) HV3.out.has HV3.out.has).mono ?_
  rintro r w11 ⟨rfl, b11⟩
  have HV4 := hid (HV3.out.below b11)
  have HG4 := hid (HG3.out.below b11)
  have HU4 := hid (q_trans HU3.out b11)
  clear x0 x1 x2 xf f0 f1 f2 ff HV3 HG3 HU3 b11
  obtain ⟨x0, x1, x2, xf⟩ := HV4.out.box
  obtain ⟨f0, f1, f2, ff⟩ := HG4.out.box
  go_wp2_with fail
  refine (k_same K (e := L5) (f := L6) (b := false) rfl rfl (by kernel_rfl) _ _ _ _ _ (sm_of l_ok5) (sm_of l_ok6) HV4.out.has HG4.out.has).mono ?_
  rintro r w12 ⟨rfl, b12⟩
  go_wp2_with fail
  go_ret
  exact ⟨rfl, q_trans HU4.out b12⟩
end Go.Proofs.Ytejghoncihdfkaa.Ep
