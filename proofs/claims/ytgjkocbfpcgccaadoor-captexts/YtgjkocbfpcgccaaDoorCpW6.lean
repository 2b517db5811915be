/- What Text does. -/
import Derived.Test.YtgjkocbfpcgccaaDoorCpW5
import Derived.Test.YtgjkocbfpcgccaaDoorCpItoa
import Derived.Lib.ItoaLen
namespace Go.Proofs.YtgjkocbfpcgccaaDoor.Cp
open Go.RowKit

theorem gPow : Tryd.prog.globalNamed "internal/strconv.uint64pow10" = some 4 := by kernel_rfl
theorem Tabs.pow {w : World} (h : Tabs w) : Lib.TabIs Tryd.prog w "internal/strconv.uint64pow10" .u64 Lib.pow10Tab := by
  obtain ⟨t, fr, h⟩ := h.p
  unfold Lib.TabIs World.var?
  rw [gPow, Option.bind_some, h]
/-- A number's digits. -/
def digS (n : Int) : ByteArray := ⟨(Lib.itoa n).toArray⟩
theorem grow_below (w : World) (k : Nat) (os : Array Obj) : Below w.heap.size w (Sort.grow (w.drewN k) os) := by
  have h : Below w.heap.size w (w.drewN k) := below_drewN (Below.refl _ _) _
  refine h.trans ⟨rfl, rfl, rfl, by simp, fun j hj => Sort.heap_grow_old _ _ (Nat.lt_of_lt_of_le hj h.size)⟩
theorem itoa_any (n : Int) (w : World) (h0 : 0 ≤ n) (h1 : n ≤ 65535) (hT : Tabs w) :
    Calls Tryd.prog 36 #[.int .i64 n] w fun e w' => e = .returned (.string (digS n)) ∧ Below w.heap.size w w' := by
  refine (Tryd.itoa_laid n (by omega) (by omega) w hT.pow).mono ?_
  rintro e w' ⟨rfl, k, os, rfl⟩
  exact ⟨rfl, grow_below w k os⟩

theorem digS_size (n : Int) (h0 : 0 ≤ n) (h1 : n ≤ 65535) : (digS n).size ≤ 21 := by
  have := Lib.itoa_length_le n (by omega) (by omega)
  simpa [digS, ByteArray.size] using this
theorem textT_size (r : Int) : (Rt.textT r).size ≤ 4 := by
  unfold Rt.textT
  split
  · rename_i h
    obtain ⟨n, hn, rfl⟩ := Rt.isR_nat h
    have : ∀ r : Fin 16, (Rt.textN r).size ≤ 4 := by decide +kernel
    exact this ⟨n, hn⟩
  · decide
theorem tyName_size (k : Nat) : (tyName k).size ≤ 8 := by
  unfold tyName
  split <;> decide

/-- The words behind a Type's name. -/
def tailS (c : K) : ByteArray := ⟨#[32]⟩ ++ digS c.o ++ ⟨#[46]⟩ ++ digS c.g ++ ⟨#[32]⟩ ++ Rt.textT c.r
def mainS (c : K) : ByteArray := tyName c.t.toNat ++ tailS c
def textC (c : K) : ByteArray := if okB c then (if noneB c then tyName 0 else if c.b = 0 then mainS c else mainS c ++ (⟨#[32]⟩ ++ digS c.b)) else ⟨#[]⟩

set_option maxHeartbeats 400000 in
theorem text_bad (c : K) (w : World) (hT : Tabs w) (h : okB c = false) :
    Calls Tryd.prog 16 #[(.agg #[.int .i64 c.t, .int .i64 c.r, .int .i64 c.b, .int .i64 c.o, .int .i64 c.g])] w fun e w' => e = .returned (.string ⟨#[]⟩) ∧ Below w.heap.size w w' := by
  have HC : Hid (∀ W : World, Tabs W → Calls Tryd.prog 14 #[(.agg #[.int .i64 c.t, .int .i64 c.r, .int .i64 c.b, .int .i64 c.o, .int .i64 c.g])] W fun e w' => e = .returned (.int .i64 30) ∧ Below W.heap.size W w') := fun W hW => by
    have := check_any c W hW
    rwa [show chkE c = 30 by simp [chkE, h]] at this
  have HT : Hid (Tabs w) := hT
  clear hT h
  go_enter Tryd.func16, Tryd.ntmps16
  go_wp2_with (go_at_call 14; refine (HC.out _ (HT.out.below (q_alloc (Below.refl _ _) _))).mono ?_; rintro e w1 ⟨rfl, b1⟩)
  go_ret
  exact ⟨rfl, q_trans (q_alloc (Below.refl _ _) _) b1⟩

set_option maxRecDepth 100000 in
set_option maxHeartbeats 2000000 in
theorem text_none (w : World) (hT : Tabs w) :
    Calls Tryd.prog 16 #[.agg #[.int .i64 0, .int .i64 0, .int .i64 0, .int .i64 0, .int .i64 0]] w fun e w' => e = .returned (.string (tyName 0)) ∧ Below w.heap.size w w' := by
  have HT : Hid (Tabs w) := hT
  have HI : Hid (In (w.alloc (.cells #[.int .i64 0, .int .i64 0, .int .i64 0, .int .i64 0, .int .i64 0] 23)) w.heap.size ⟨0, 0, 0, 0, 0⟩) := in_new w ⟨0, 0, 0, 0, 0⟩ 23
  clear hT
  have HC : Hid (∀ W : World, Tabs W → Calls Tryd.prog 14 #[.agg #[.int .i64 0, .int .i64 0, .int .i64 0, .int .i64 0, .int .i64 0]] W fun e w' => e = .returned (.int .i64 0) ∧ Below W.heap.size W w') := fun W hW => check_any K.zero W hW
  have HN : Hid (∀ W : World, Calls Tryd.prog 32 #[.agg #[.int .i64 0, .int .i64 0, .int .i64 0, .int .i64 0, .int .i64 0]] W fun e w' => e = .returned (.bool true) ∧ Below W.heap.size W w') := fun W => isNone_any K.zero W
  obtain ⟨n0, hn0⟩ : ∃ n0, tyName 0 = n0 := ⟨_, rfl⟩
  have HN0 : Hid (tyName 0 = n0) := hn0
  clear hn0
  rw [HN0.out]
  go_enter Tryd.func16, Tryd.ntmps16
  go_wp2_with fail
  refine (HC.out _ (HT.out.below (q_alloc (Below.refl _ _) _))).mono ?_
  rintro e w1 ⟨rfl, b1⟩
  have HB1 : Hid (Below w.heap.size w w1) := q_trans (q_alloc (Below.refl _ _) _) b1
  obtain ⟨c0, c1, c2, c3, c4⟩ := HI.out.below b1
  have ht := (HT.out.below HB1.out).tn 0 (by omega)
  rw [HN0.out] at ht
  clear b1
  go_wp2_with (go_at_call 32; refine (HN.out _).mono ?_; rintro e w2 ⟨rfl, b2⟩)
  go_ret
  exact ⟨rfl, q_trans HB1.out b2⟩

set_option maxRecDepth 100000 in
set_option maxHeartbeats 2000000 in
theorem text_some (k : Nat) (r b o g : Int) (w : World) (hT : Tabs w) (hs : someB ⟨k, r, b, o, g⟩ = true) :
    Calls Tryd.prog 16 #[.agg #[.int .i64 k, .int .i64 r, .int .i64 b, .int .i64 o, .int .i64 g]] w fun e w' => e = .returned (.string (textC ⟨k, r, b, o, g⟩)) ∧ Below w.heap.size w w' := by
  have hn : noneB ⟨k, r, b, o, g⟩ = false := some_not_none hs
  have hok : okB ⟨k, r, b, o, g⟩ = true := by simp [okB, hs]
  have HE : Hid (textC ⟨k, r, b, o, g⟩ = if b = 0 then mainS ⟨k, r, b, o, g⟩ else mainS ⟨k, r, b, o, g⟩ ++ (⟨#[32]⟩ ++ digS b)) := by simp [Hid, textC, hok, hn]
  have HC : Hid (∀ W : World, Tabs W → Calls Tryd.prog 14 #[.agg #[.int .i64 k, .int .i64 r, .int .i64 b, .int .i64 o, .int .i64 g]] W fun e w' => e = .returned (.int .i64 0) ∧ Below W.heap.size W w') := fun W hW => by
    have := check_any ⟨k, r, b, o, g⟩ W hW
    rwa [show chkE ⟨k, r, b, o, g⟩ = 0 by simp [chkE, hok]] at this
  have HN : Hid (∀ W : World, Calls Tryd.prog 32 #[.agg #[.int .i64 k, .int .i64 r, .int .i64 b, .int .i64 o, .int .i64 g]] W fun e w' => e = .returned (.bool false) ∧ Below W.heap.size W w') := fun W => by
    have := isNone_any ⟨k, r, b, o, g⟩ W
    rwa [hn] at this
  have hs' := hs
  simp only [someB, Bool.and_eq_true, decide_eq_true_eq, up_iff, Rt.isR_iff] at hs'
  obtain ⟨⟨k1, k5⟩, ⟨⟨hr, hb⟩, ho⟩, hg⟩ := hs'
  have hm := most_le k
  have o0 : 0 ≤ o := by omega
  have o1 : o ≤ 65535 := by omega
  have g0 : 0 ≤ g := by omega
  have g1 : g ≤ 65535 := by omega
  have b0 : 0 ≤ b := by omega
  have b1 : b ≤ 65535 := by omega
  have so := digS_size o (by omega) (by omega)
  have sg := digS_size g (by omega) (by omega)
  have sb := digS_size b (by omega) (by omega)
  have sr := textT_size r
  have sn := tyName_size k
  have i1 : (0 : Int) ≤ (k : Int) := by omega
  have i2 : (k : Int) < 6 := by omega
  have HK : Hid (k < 6) := by show k < 6; omega
  have HI : Hid (In (w.alloc (.cells #[.int .i64 k, .int .i64 r, .int .i64 b, .int .i64 o, .int .i64 g] 23)) w.heap.size ⟨k, r, b, o, g⟩) := in_new w ⟨k, r, b, o, g⟩ 23
  have HT : Hid (Tabs w) := hT
  clear hT hs hn hok hr hb ho hg hm k1 k5
  have HM : Hid (mainS ⟨k, r, b, o, g⟩ = tyName k ++ (⟨#[32]⟩ ++ digS o ++ ⟨#[46]⟩ ++ digS g ++ ⟨#[32]⟩ ++ Rt.textT r)) := rfl
  have HR : Hid (∀ W : World, Tabs W → Calls Tryd.prog 37 #[.int .i64 r] W fun e w' => e = .returned (.string (Rt.textT r)) ∧ Below W.heap.size W w') := fun W hW => Rt.text_any r W hW.r
  have HTN : Hid (∀ W : World, Tabs W → W.cell? ⟨2, k, none⟩ = some (.string (tyName k))) := fun W hW => hW.tn k HK.out
  go_enter Tryd.func16, Tryd.ntmps16
  go_wp2_with fail
  refine (HC.out _ (HT.out.below (q_alloc (Below.refl _ _) _))).mono ?_
  rintro e w1 ⟨rfl, b1⟩
  have HB1 : Hid (Below w.heap.size w w1) := q_trans (q_alloc (Below.refl _ _) _) b1
  have HI1 : Hid (In w1 w.heap.size ⟨k, r, b, o, g⟩) := HI.out.below b1
  obtain ⟨c0, c1, c2, c3, c4⟩ := HI1.out
  have ht := HTN.out _ (HT.out.below HB1.out)
  clear b1
  go_wp2_with fail
  refine (HN.out _).mono ?_
  rintro e w2 ⟨rfl, b2⟩
  have HB2 : Hid (Below w.heap.size w w2) := q_trans HB1.out b2
  have HI2 : Hid (In w2 w.heap.size ⟨k, r, b, o, g⟩) := HI1.out.below b2
  clear b2 c0 c1 c2 c3 c4 ht
  obtain ⟨c0, c1, c2, c3, c4⟩ := HI2.out.always
  have hne : Nonempty (Later w2) := ⟨⟨w2, Below.refl _ _⟩⟩
  have HTL : Hid (∀ g : Later w2, Tabs g.now) := fun g => HT.out.below (q_trans HB2.out g.low)
  go_wp2_with fail
  refine wp_region_later (by kernel_rfl) (by kernel_rfl) ?_
  repeat (go_big_quiet_step (first | (go_at_call 37; exact later_call (HR.out _ (HTL.out _))) | (go_at_call 36; exact later_call (itoa_any _ _ (by first | exact o0 | exact g0) (by first | exact o1 | exact g1) (HTL.out _)))))
  refine wpQuiet_nil ?_
  rintro w3 ⟨⟨_, b3⟩, rfl⟩
  have HB3 : Hid (Below w.heap.size w w3) := q_trans HB2.out b3
  have HI3 : Hid (In w3 w.heap.size ⟨k, r, b, o, g⟩) := HI2.out.below b3
  clear b3 c0 c1 c2 c3 c4
  obtain ⟨c0, c1, c2, c3, c4⟩ := HI3.out
  by_cases hb : b = 0
  · have HX : Hid (textC ⟨k, r, b, o, g⟩ = mainS ⟨k, r, b, o, g⟩) := HE.out.trans (if_pos hb)
    have hbz : (b == 0) = true := beq_iff_eq.2 hb
    clear hb
    go_wp2_with fail
    go_ret
    exact ⟨by rw [HX.out, HM.out]; rfl, HB3.out⟩
  · have HX : Hid (textC ⟨k, r, b, o, g⟩ = mainS ⟨k, r, b, o, g⟩ ++ (⟨#[32]⟩ ++ digS b)) := HE.out.trans (if_neg hb)
    have sm : (tyName k ++ (⟨#[32]⟩ ++ digS o ++ ⟨#[46]⟩ ++ digS g ++ ⟨#[32]⟩ ++ Rt.textT r)).size ≤ 100 := by
      have e1 : (⟨#[32]⟩ : ByteArray).size = 1 := rfl
      have e2 : (⟨#[46]⟩ : ByteArray).size = 1 := rfl
      simp only [ByteArray.size_append, e1, e2]
      omega
    rw [HM.out] at HX
    generalize tyName k ++ (⟨#[32]⟩ ++ digS o ++ ⟨#[46]⟩ ++ digS g ++ ⟨#[32]⟩ ++ Rt.textT r) = M at *
    go_wp2_with (go_at_call 36; refine (itoa_any _ _ b0 b1 (HT.out.below HB3.out)).mono ?_; rintro e w4 ⟨rfl, b4⟩)
    go_ret
    exact ⟨by rw [HX.out]; rfl, q_trans HB3.out b4⟩

/-- TEXT, OF WHATEVER CAPABILITY. -/
theorem text_any (c : K) (w : World) (hT : Tabs w) :
    Calls Tryd.prog 16 #[(.agg #[.int .i64 c.t, .int .i64 c.r, .int .i64 c.b, .int .i64 c.o, .int .i64 c.g])] w fun e w' => e = .returned (.string (textC c)) ∧ Below w.heap.size w w' := by
  cases hn : noneB c with
  | true =>
    have := noneB_zero.1 hn
    subst this
    exact text_none w hT
  | false =>
    cases hs : someB c with
    | false =>
      have h : okB c = false := by simp [okB, hn, hs]
      rw [show textC c = ⟨#[]⟩ by simp [textC, h]]
      exact text_bad c w hT h
    | true =>
      obtain ⟨t, r, b, o, g⟩ := c
      have hs' := hs
      simp only [someB, Bool.and_eq_true, decide_eq_true_eq] at hs'
      obtain ⟨k, rfl⟩ := Int.eq_ofNat_of_zero_le (show 0 ≤ t by have := hs'.1.1; omega)
      exact text_some k r b o g w hT hs
end Go.Proofs.YtgjkocbfpcgccaaDoor.Cp
