/- live answers true. -/
import Derived.Test.YtadobkecdcnjkabCeWA
namespace Go.Proofs.Ytadobkecdcnjkab.Ce
open Go.RowKit

def lo1 : O := ⟨4, 1, 0, 0, 3⟩
def lo2 : O := ⟨4, 1, 0, 0, 4⟩
def lo3 : O := ⟨5, 1, 0, 0, 4⟩
def lo4 : O := ⟨1, 2, 0, 0, 0⟩
def lo5 : O := ⟨3, 0, 5, 6, 0⟩
def lv1 : S := (S.new 2).step lo1
def lv2 : S := lv1.step lo2
def lv3 : S := lv2.step lo3
theorem lv_do {w : World} {B p g vcap : Nat} {tao : Option Addr} {tcap : Nat} {s s' : S} {o : O} {got e0 : Int} {ok : Bool} (HC : Cel w B p g vcap tao tcap s) (hsn : s.n ≤ 5000)
    (h1 : (apR s.vs o).got = got) (h2 : (apR s.vs o).ok = ok) (h3 : chk o s.vs.length = e0) (h4 : s.step o = s') :
    Calls Try.prog 16 #[.pointer (some ⟨p, 0, none⟩), (.agg #[.int .i64 o.k, .int .i64 o.c, .int .i64 o.a, .int .i64 o.v, .int .i64 o.w])] w fun e w' => e = .returned (.tuple #[.int .i64 got, .bool ok, .int .i64 e0]) ∧ ∃ tao' tcap', Cel w' B p g vcap tao' tcap' s' ∧ Below B w w' := by
  have h := do_any HC o hsn
  rw [h1, h2, h3, h4] at h
  refine h.mono ?_
  rintro e w' ⟨rfl, tao', tcap', hc, hk, _⟩
  have hlt := HC.lt
  exact ⟨rfl, tao', tcap', hc, hk.below B (by have := hlt p (.inl rfl); omega) (fun i e => (hlt i e).1)⟩

theorem lv_steps {w : World} {B p g vcap : Nat} {tao : Option Addr} {tcap : Nat} (HC : Cel w B p g vcap tao tcap lv3) : Calls Try.prog 14 #[.pointer (some ⟨p, 0, none⟩)] w fun e w' => e = .returned (.int .i64 3) ∧ w' = w := steps_any HC
theorem lv_trace {w : World} {B p g vcap : Nat} {tao : Option Addr} {tcap : Nat} (HC : Cel w B p g vcap tao tcap lv3) : Calls Try.prog 15 #[.pointer (some ⟨p, 0, none⟩)] w fun e w' => ∃ ao' cap', e = .returned (.slice ao' 3 cap') ∧ Below w.heap.size w w' := by
  refine (trace_any HC (by decide)).mono ?_
  rintro e w' ⟨ao', cap', rfl, _, b⟩
  exact ⟨ao', cap', rfl, b⟩
theorem lv_check (w : World) : Calls Try.prog 18 #[.agg #[.int .i64 0, .int .i64 0, .int .i64 0, .int .i64 0, .int .i64 0], .int .i64 1] w fun e w' => e = .returned (.int .i64 2) ∧ Below w.heap.size w w' := check_no O.zero 1 w (by decide)
set_option maxRecDepth 100000 in
set_option maxHeartbeats 1000000 in
theorem live_any (w : World) : Calls Try.prog 5 #[] w fun e w' => e = .returned (.bool true) ∧ Below w.heap.size w w' := by
  go_enter Try.func5, Try.ntmps5
  go_wp2_with fail
  refine (new_yes 2 w (by decide)).mono ?_
  rintro e w1 ⟨rfl, hc1, b1⟩
  have HC1 := hid hc1
  have HB1 := hid b1
  clear hc1 b1
  go_wp2_with (go_at_call 10; refine (num_any _ _).mono ?_; rintro e w' ⟨rfl, rfl⟩)
  refine (lv_do (o := lo1) (got := 0) (ok := true) (e0 := 0) (s' := lv1) HC1.out (by decide) (by kernel_rfl) (by kernel_rfl) (by kernel_rfl) rfl).mono ?_
  rintro e w2 ⟨rfl, t2, u2, hc2, b2⟩
  have HC2 := hid hc2
  have HB2 := hid (HB1.out.trans b2)
  clear hc2 b2 HC1 HB1
  go_wp2_with fail
  refine (lv_do (o := lo2) (got := 3) (ok := false) (e0 := 0) (s' := lv2) HC2.out (by decide) (by kernel_rfl) (by kernel_rfl) (by kernel_rfl) rfl).mono ?_
  rintro e w3 ⟨rfl, t3, u3, hc3, b3⟩
  have HC3 := hid hc3
  have HB3 := hid (HB2.out.trans b3)
  clear hc3 b3 HC2 HB2
  go_wp2_with fail
  refine (lv_do (o := lo3) (got := 3) (ok := false) (e0 := 0) (s' := lv3) HC3.out (by decide) (by kernel_rfl) (by kernel_rfl) (by kernel_rfl) rfl).mono ?_
  rintro e w4 ⟨rfl, t4, u4, hc4, b4⟩
  have HC4 := hid hc4
  have HB4 := hid (HB3.out.trans b4)
  clear hc4 b4 HC3 HB3
  go_wp2_with fail
  refine (lv_do (o := lo4) (got := 0) (ok := false) (e0 := 2) (s' := lv3) HC4.out (by decide) (by kernel_rfl) (by kernel_rfl) (by kernel_rfl) (by rfl)).mono ?_
  rintro e w5 ⟨rfl, t5, u5, hc5, b5⟩
  have HC5 := hid hc5
  have HB5 := hid (HB4.out.trans b5)
  clear hc5 b5 HC4 HB4
  go_wp2_with fail
  refine (apply_any (some ⟨w5.heap.size, 0, none⟩) 1 1 [5] lo5 _ rfl (by decide) (fun h => by cases h) (one_row 5 w5)).mono ?_
  rintro e w6 ⟨ao6, cap6, he, own6, b6⟩
  rw [show apR [5] lo5 = ⟨lo5, 5, true⟩ by rfl] at he
  rw [show apV [5] lo5 = [6] by rfl] at own6
  subst he
  obtain ⟨R6, -, -, hB6⟩ := own_row own6
  obtain ⟨a6, rfl, c6⟩ := R6.cell 0 _ rfl
  rw [show a6.add 0 = a6 by simp [Addr.add]] at c6
  have h6 : a6.block < w6.heap.size := (hB6 a6 rfl).2
  have HB6 := hid (q_trans (q_trans HB5.out (alloc_below w5 _)) b6)
  have HC6 := hid ((HC5.out.below (alloc_below w5 _)).below b6)
  clear own6 R6 hB6 b6 HC5 HB5
  go_wp2_with (go_at_call 10; refine (num_any _ _).mono ?_; rintro e w' ⟨rfl, rfl⟩)
  generalize hW : w6.alloc _ = W
  have HCW : Hid (Cel W w.heap.size (w.heap.size + 1) w.heap.size 2 t5 u5 lv3) := by rw [← hW]; exact HC6.out.below (alloc_below _ _)
  have HBW : Hid (Below w.heap.size w W) := by rw [← hW]; exact q_alloc HB6.out _
  have d6 : W.cell? a6 = some (.int .i64 6) := by rw [← hW]; exact ((alloc_below w6 _).cell h6).trans c6
  have e6 : W.cell? ⟨w6.heap.size, 6, none⟩ = some (.bool true) := by rw [← hW]; simp
  have hz6 : w6.heap.size < W.heap.size := by rw [← hW]; simp
  clear hW c6 HC6 HB6
  refine (lv_steps HCW.out).mono ?_
  rintro e w7 ⟨rfl, rfl⟩
  go_wp2_with fail
  refine (lv_trace HCW.out).mono ?_
  rintro e w8 ⟨ao8, cap8, rfl, b8⟩
  have d8 := (b8.cell (by omega)).trans d6
  have e8 := (b8.cell (p := ⟨w6.heap.size, 6, none⟩) hz6).trans e6
  have HB8 := hid (q_trans HBW.out b8)
  clear b8 d6 e6 HBW HCW
  go_wp2_with (first | (go_at_call 18; refine (lv_check _).mono ?_; rintro e w9 ⟨rfl, b9⟩) | (go_at_call 10; refine (num_any _ _).mono ?_; rintro e w' ⟨rfl, rfl⟩))
  go_ret
  exact ⟨rfl, q_trans HB8.out b9⟩
end Go.Proofs.Ytadobkecdcnjkab.Ce
