/- GrabStarts answers true. -/
import Derived.Test.YtaihabkacjbfjaaGrLive
import Derived.Test.YtaihabkacjbfjaaGrRef3
namespace Go.Proofs.Ytaihabkacjbfjaa.Gr
open Go.RowKit Go.Proofs.Ytaihabkacjbfjaa.Ce

theorem app_mine {w w1 : World} {n cap : Nat} {ao : Option Addr} {l : List Int} (h : w1.ownsRow w.heap.size 3 1 (.slice ao (0 + n) cap) (0 + n) ([] ++ vals l)) : Mine w1 w.heap.size ao n cap l := by
  rw [Nat.zero_add, List.nil_append] at h
  exact own_mine h
set_option maxRecDepth 100000 in
set_option maxHeartbeats 2000000 in
theorem starts_any (who : Int) (b : Bool) (ao : Option Addr) (l : List Int) (n cap : Nat) (w : World) (hn : n ≤ 9223372036854775807) (HH : Hid (Has w ao n cap l)) :
    Calls Try.prog 3 #[.int .i64 who, .bool b, .slice ao n cap] w fun e w' => e = .returned (.bool true) ∧ Below w.heap.size w w' := by
  by_cases h300 : 300 < n
  · go_enter Try.func3, Try.ntmps3
    go_wp2_with fail
    refine (live_any _).mono ?_
    rintro e w1 ⟨rfl, b1⟩
    go_wp2_with fail
    go_ret
    exact ⟨rfl, b1⟩
  · have HS := hid (show n ≤ 300 by omega)
    go_enter Try.func3, Try.ntmps3
    go_wp2_with (at_builtin; go_loud (refine wpList_append_row _ rfl (.tmp 18) (.tmp 19) 22 3 _ 1 8 rfl Try.underlying22 infoN rfl (by decide) (by decide) w.heap.size _ 0 [] rfl (own0 w 3 1) ao n cap (vals l) rfl (by rw [len_vals, HH.out.len]; simp) HH.out.nil (HH.out.row.below (alloc_below w _)) (vals_one l) (by have := HS.out; omega) (alloc_below w _).size ?_; intro ao1 cap1 w1 own1 grow1; apply Hid.out))
    have HM1 := hid (app_mine own1)
    have HB1 := hid (app_below grow1)
    have HH1 := hid (HH.out.below HB1.out)
    clear own1 grow1 HH
    unfold Hid
    go_wp2_with fail
    refine (start_any who b ao1 n cap1 l _ HM1.out.has (by have := HS.out; omega)).mono ?_
    rintro e w2 ⟨ao2, cap2, rfl, m2, b2⟩
    generalize hg : startG who b l = g at m2 ⊢
    generalize hE : startE who l = E at ⊢
    have HG := hid hg
    have HE := hid hE
    have HM2 := hid m2
    have HH2 := hid (HH1.out.below b2)
    have HB2 := hid (q_trans HB1.out b2)
    clear m2 b2 HM1 HH1 HB1 hg hE
    go_wp2_with fail
    refine (rstart_any who b ao n cap l _ (HH2.out.below (alloc_below _ _)) (by have := HS.out; omega)).mono ?_
    rintro e w3 ⟨ao3, cap3, rfl, m3, b3⟩
    rw [HG.out, HE.out]
    rw [HG.out] at m3
    have HG3 := hid ((inG_new w2 g.w (.slice ao2 g.cs.length cap2) g.p g.a g.t g.b 25).below b3)
    have HM3 := hid m3
    have HA3 := hid ((HM2.out.has.below (alloc_below _ _)).below b3)
    have HB3 := hid (q_trans (q_alloc HB2.out _) b3)
    have HL : Hid (g.cs.length ≤ 5000) := by
      have := HG.out
      subst this
      rw [start_cs]
      split
      · have := len_srt l
        have := HH2.out.len
        have := HS.out
        show _ ≤ _
        omega
      · simp [Hid]
    clear m3 b3 HM2 HH2 HB2
    obtain ⟨c0, c1, c2, c3, c4, c5, cf⟩ := HG3.out
    have l3 : w2.heap.size < w3.heap.size := HG3.out.lt
    go_wp2_with fail
    refine (same_yes g.w g.p g.a g.t g.b ao2 ao3 g.cs.length cap2 cap3 g.cs _ HL (HA3.out.below (alloc_below _ _)) (HM3.out.below (alloc_below _ _))).mono ?_
    rintro e w4 ⟨rfl, b4⟩
    have HB4 := hid (q_trans (q_alloc HB3.out _) b4)
    clear b4 c0 c1 c2 c3 c4 c5 cf l3 HB3 HG3 HA3 HM3
    go_wp2_with fail
    refine (num_any E _).mono ?_
    rintro e w5 ⟨rfl, hw⟩
    rw [hw]
    clear hw w5
    go_wp2_with fail
    refine (live_any _).mono ?_
    rintro e w5 ⟨rfl, b5⟩
    have HB5 := hid (q_trans HB4.out b5)
    clear b5
    go_wp2_with fail
    go_ret
    exact ⟨rfl, HB5.out⟩
end Go.Proofs.Ytaihabkacjbfjaa.Gr
