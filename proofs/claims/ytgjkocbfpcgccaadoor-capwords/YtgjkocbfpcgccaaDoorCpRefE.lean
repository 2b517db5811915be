/- What the reference's Text does. -/
import Derived.Test.YtgjkocbfpcgccaaDoorCpRefC
import Derived.Test.YtgjkocbfpcgccaaDoorRcRefD
import Derived.Test.YtgjkocbfpcgccaaDoorCpNever
namespace Go.Proofs.YtgjkocbfpcgccaaDoor.Cp
open Go.RowKit

theorem app_assoc (a b c : ByteArray) : a ++ b ++ c = a ++ (b ++ c) := by
  apply ByteArray.ext
  simp [ByteArray.data_append, Array.append_assoc]
theorem main_eq (N o g r : ByteArray) : N ++ ⟨#[32]⟩ ++ o ++ ⟨#[46]⟩ ++ g ++ ⟨#[32]⟩ ++ r = N ++ (⟨#[32]⟩ ++ o ++ ⟨#[46]⟩ ++ g ++ ⟨#[32]⟩ ++ r) := by simp only [app_assoc]

set_option maxHeartbeats 400000 in
theorem rtext_bad (c : K) (w : World) (h : okB c = false) :
    Calls Tryd.prog 17 #[(.agg #[.int .i64 c.t, .int .i64 c.r, .int .i64 c.b, .int .i64 c.o, .int .i64 c.g])] w fun e w' => e = .returned (.string ⟨#[]⟩) ∧ Below w.heap.size w w' := by
  go_enter Tryd.func17, Tryd.ntmps17
  go_wp2_with (go_at_call 15; refine (ris_any c _).mono ?_; rintro e w1 ⟨rfl, b1⟩)
  go_ret
  exact ⟨rfl, q_trans (q_alloc (Below.refl _ _) _) b1⟩
set_option maxHeartbeats 400000 in
theorem rtext_none (c : K) (w : World) (h : okB c = true) (hs : someB c = false) :
    Calls Tryd.prog 17 #[(.agg #[.int .i64 c.t, .int .i64 c.r, .int .i64 c.b, .int .i64 c.o, .int .i64 c.g])] w fun e w' => e = .returned (.string (tyName 0)) ∧ Below w.heap.size w w' := by
  have ht : (c.t == 0) = true := by rw [none_type h, hs]; rfl
  have HI := in_new w c 23
  go_enter Tryd.func17, Tryd.ntmps17
  go_wp2_with fail
  refine (ris_any c _).mono ?_
  rintro e w1 ⟨rfl, b1⟩
  have HB1 : Hid (Below w.heap.size w w1) := q_trans (q_alloc (Below.refl _ _) _) b1
  obtain ⟨c0, c1, c2, c3, c4⟩ := HI.below b1
  clear b1
  go_wp2_with fail
  go_ret
  exact ⟨rfl, HB1.out⟩

def nmCells : Array Value := #[.string ⟨#[]⟩, .string ⟨#[117, 110, 116, 121, 112, 101, 100]⟩, .string ⟨#[110, 111, 100, 101]⟩, .string ⟨#[102, 114, 97, 109, 101]⟩, .string ⟨#[101, 110, 100, 112, 111, 105, 110, 116]⟩, .string ⟨#[110, 111, 116, 105, 99, 101]⟩]
theorem nm_at (w : World) (k : Nat) (h1 : 1 ≤ k) (h5 : k ≤ 5) : (w.alloc (.cells #[.string ⟨#[]⟩, .string ⟨#[117, 110, 116, 121, 112, 101, 100]⟩, .string ⟨#[110, 111, 100, 101]⟩, .string ⟨#[102, 114, 97, 109, 101]⟩, .string ⟨#[101, 110, 100, 112, 111, 105, 110, 116]⟩, .string ⟨#[110, 111, 116, 105, 99, 101]⟩] 9)).cell? ⟨w.heap.size, k, none⟩ = some (.string (tyName k)) := by
  have : k = 1 ∨ k = 2 ∨ k = 3 ∨ k = 4 ∨ k = 5 := by omega
  rcases this with rfl | rfl | rfl | rfl | rfl <;> simp [tyName]

set_option maxRecDepth 100000 in
set_option maxHeartbeats 600000 in
theorem rtext_some (k : Nat) (r b o g : Int) (w : World) (hs : someB ⟨k, r, b, o, g⟩ = true) :
    Calls Tryd.prog 17 #[.agg #[.int .i64 k, .int .i64 r, .int .i64 b, .int .i64 o, .int .i64 g]] w fun e w' => e = .returned (.string (textC ⟨k, r, b, o, g⟩)) ∧ Below w.heap.size w w' := by
  have hn : noneB ⟨k, r, b, o, g⟩ = false := some_not_none hs
  have hok : okB ⟨k, r, b, o, g⟩ = true := by simp [okB, hs]
  have HE : Hid (textC ⟨k, r, b, o, g⟩ = if b = 0 then mainS ⟨k, r, b, o, g⟩ else mainS ⟨k, r, b, o, g⟩ ++ (⟨#[32]⟩ ++ digS b)) := by simp [Hid, textC, hok, hn]
  have HC : Hid (∀ W : World, Calls Tryd.prog 15 #[.agg #[.int .i64 k, .int .i64 r, .int .i64 b, .int .i64 o, .int .i64 g]] W fun e w' => e = .returned (.bool true) ∧ Below W.heap.size W w') := fun W => by
    have := ris_any ⟨k, r, b, o, g⟩ W
    rwa [hok] at this
  have hs' := hs
  simp only [someB, Bool.and_eq_true, decide_eq_true_eq, up_iff, Rt.isR_iff] at hs'
  obtain ⟨⟨k1, k5⟩, ⟨⟨hr, hb⟩, ho⟩, hg⟩ := hs'
  have hm := most_le k
  have o0 : 0 ≤ o := by omega
  have o1 : o ≤ 65535 := by omega
  have g0 : 0 ≤ g := by omega
  have g1 : g ≤ 65535 := by omega
  have b0 : 0 ≤ b := by omega
  have b1 : b ≤ 65535 := by omega
  have so := digS_size o (by omega) (by omega)
  have sg := digS_size g (by omega) (by omega)
  have sb := digS_size b (by omega) (by omega)
  have sr := textT_size r
  have sn := tyName_size k
  have i1 : (0 : Int) ≤ (k : Int) := by omega
  have i2 : (k : Int) < 6 := by omega
  have kz : ((k : Int) == 0) = false := beq_eq_false_iff_ne.2 (by omega)
  have HK : Hid (1 ≤ k ∧ k ≤ 5) := by show 1 ≤ k ∧ k ≤ 5; omega
  have HI : Hid (In (w.alloc (.cells #[.int .i64 k, .int .i64 r, .int .i64 b, .int .i64 o, .int .i64 g] 23)) w.heap.size ⟨k, r, b, o, g⟩) := in_new w ⟨k, r, b, o, g⟩ 23
  clear hs hn hok hr hb ho hg hm k1 k5
  have HM : Hid (mainS ⟨k, r, b, o, g⟩ = tyName k ++ ⟨#[32]⟩ ++ digS o ++ ⟨#[46]⟩ ++ digS g ++ ⟨#[32]⟩ ++ Rt.textT r) := (main_eq _ _ _ _).symm
  go_enter Tryd.func17, Tryd.ntmps17
  go_wp2_with fail
  refine (HC.out _).mono ?_
  rintro e w1 ⟨rfl, b1'⟩
  have HB1 : Hid (Below w.heap.size w w1) := q_trans (q_alloc (Below.refl _ _) _) b1'
  have HI1 : Hid (In w1 w.heap.size ⟨k, r, b, o, g⟩) := HI.out.below b1'
  obtain ⟨c0, c1, c2, c3, c4⟩ := HI1.out
  clear b1'
  go_wp2_with fail
  have hnm := nm_at w1 k HK.out.1 HK.out.2
  have HI2 := HI1.out.below (q_alloc (Below.refl _ _) (.cells #[.string ⟨#[]⟩, .string ⟨#[117, 110, 116, 121, 112, 101, 100]⟩, .string ⟨#[110, 111, 100, 101]⟩, .string ⟨#[102, 114, 97, 109, 101]⟩, .string ⟨#[101, 110, 100, 112, 111, 105, 110, 116]⟩, .string ⟨#[110, 111, 116, 105, 99, 101]⟩] 9))
  have HB2 := q_alloc HB1.out (.cells #[.string ⟨#[]⟩, .string ⟨#[117, 110, 116, 121, 112, 101, 100]⟩, .string ⟨#[110, 111, 100, 101]⟩, .string ⟨#[102, 114, 97, 109, 101]⟩, .string ⟨#[101, 110, 100, 112, 111, 105, 110, 116]⟩, .string ⟨#[110, 111, 116, 105, 99, 101]⟩] 9)
  obtain ⟨W, hW⟩ : ∃ W, w1.alloc (.cells #[.string ⟨#[]⟩, .string ⟨#[117, 110, 116, 121, 112, 101, 100]⟩, .string ⟨#[110, 111, 100, 101]⟩, .string ⟨#[102, 114, 97, 109, 101]⟩, .string ⟨#[101, 110, 100, 112, 111, 105, 110, 116]⟩, .string ⟨#[110, 111, 116, 105, 99, 101]⟩] 9) = W := ⟨_, rfl⟩
  rw [hW] at hnm HI2 HB2 ⊢
  clear hW c0 c1 c2 c3 c4
  have HI3 : Hid _ := HI2
  have HB3 : Hid _ := HB2
  obtain ⟨c0, c1, c2, c3, c4⟩ := HI2.always
  have hnl : ∀ g : Later W, g.now.cell? ⟨w1.heap.size, k, none⟩ = some (.string (tyName k)) := fun g => g.cell hnm
  have hne : Nonempty (Later W) := ⟨⟨W, Below.refl _ _⟩⟩
  clear HI2 HB2 hnm
  refine wp_region_later (by kernel_rfl) (by kernel_rfl) ?_
  repeat (go_big_quiet_step (first | (go_at_call 39; exact later_same (Rt.rtext_any _ _)) | (go_at_call 38; exact later_same (rdigits_any _ _ (by first | exact o0 | exact g0) (by first | exact o1 | exact g1)))))
  refine wpQuiet_nil ?_
  rintro w3 ⟨⟨_, b3⟩, rfl⟩
  have HB4 : Hid (Below w.heap.size w w3) := q_trans HB3.out b3
  obtain ⟨c0, c1, c2, c3, c4⟩ := HI3.out.below b3
  clear b3
  have sm : (tyName k ++ ⟨#[32]⟩ ++ digS o ++ ⟨#[46]⟩ ++ digS g ++ ⟨#[32]⟩ ++ Rt.textT r).size ≤ 100 := by
    have e1 : (⟨#[32]⟩ : ByteArray).size = 1 := rfl
    have e2 : (⟨#[46]⟩ : ByteArray).size = 1 := rfl
    simp only [ByteArray.size_append, e1, e2]
    omega
  generalize tyName k ++ ⟨#[32]⟩ ++ digS o ++ ⟨#[46]⟩ ++ digS g ++ ⟨#[32]⟩ ++ Rt.textT r = M at *
  by_cases hb : b = 0
  · have HX : Hid (textC ⟨k, r, b, o, g⟩ = M) := (HE.out.trans (if_pos hb)).trans HM.out
    have hbz : (b != 0) = false := by simp [hb]
    clear hb
    go_wp2_with fail
    go_ret
    exact ⟨by rw [HX.out]; rfl, HB4.out⟩
  · have HX : Hid (textC ⟨k, r, b, o, g⟩ = M ++ ⟨#[32]⟩ ++ digS b) := by
      show _ = _
      rw [HE.out, if_neg hb, HM.out, app_assoc]
    have hbz : (b != 0) = true := by simp [hb]
    clear hb
    go_wp2_with (go_at_call 38; refine (rdigits_any _ _ b0 b1).mono ?_; rintro e w4 ⟨rfl, rfl⟩)
    go_ret
    exact ⟨by rw [HX.out]; rfl, HB4.out⟩

/-- TEXT, OF WHATEVER CAPABILITY. -/
theorem rtext_any (c : K) (w : World) :
    Calls Tryd.prog 17 #[(.agg #[.int .i64 c.t, .int .i64 c.r, .int .i64 c.b, .int .i64 c.o, .int .i64 c.g])] w fun e w' => e = .returned (.string (textC c)) ∧ Below w.heap.size w w' := by
  cases h : okB c with
  | false =>
    rw [show textC c = ⟨#[]⟩ by simp [textC, h]]
    exact rtext_bad c w h
  | true =>
    cases hs : someB c with
    | false =>
      have hn : noneB c = true := by simpa [okB, hs] using h
      rw [show textC c = tyName 0 by simp [textC, h, hn]]
      exact rtext_none c w h hs
    | true =>
      obtain ⟨t, r, b, o, g⟩ := c
      have hs' := hs
      simp only [someB, Bool.and_eq_true, decide_eq_true_eq] at hs'
      obtain ⟨k, rfl⟩ := Int.eq_ofNat_of_zero_le (show 0 ≤ t by have := hs'.1.1; omega)
      exact rtext_some k r b o g w hs
end Go.Proofs.YtgjkocbfpcgccaaDoor.Cp
