/- GhostRuns: whatever befalls, one thing behind the other: the ghost, and how much was passed over; it may be. -/
import Derived.Test.YtcldnacpddebcaaGhLive
import Derived.Test.YtcldnacpddebcaaGhRRun
namespace Go.Proofs.Ytcldnacpddebcaa.Gh
open Go.RowKit
open Go.Proofs.Ytcldnacpddebcaa.Tr

set_option maxHeartbeats 800000 in
theorem runs_long (ao : Option Addr) (n cap : Nat) (w : World) (h : 80 < n) :
    Calls Try.prog 5 #[.slice ao n cap] w fun e w' => e = .returned (.bool true) ∧ Below w.heap.size w w' := by
  have i1 : (n : Int) > 80 := by omega
  clear h
  go_enter Try.func5, Try.ntmps5
  go_wp2_with (go_at_call 10; refine (live_any _).mono ?_; rintro e w2 ⟨rfl, b⟩)
  go_ret
  exact ⟨rfl, b⟩
set_option maxRecDepth 100000 in
set_option maxHeartbeats 4000000 in
theorem runs_in (ao : Option Addr) (n cap : Nat) (l : List Bi) (w : World) (hn : n ≤ 80) (HH : Hid (HasZ w ao n cap l)) :
    Calls Try.prog 5 #[.slice ao n cap] w fun e w' => e = .returned (.bool true) ∧ Below w.heap.size w w' := by
  have HN := hid HH.out.len
  have j1 : ¬ (n : Int) > 80 := by omega
  go_enter Try.func5, Try.ntmps5
  have HRw := hid (HH.out.row.below (alloc_below w (.cells #[] 29)))
  go_wp2_with (at_builtin; go_loud (refine wpList_append_row _ rfl (.tmp 12) (.tmp 13) 47 29 _ 5 40 rfl Try.underlying47 infoZ rfl (by decide) (by decide) w.heap.size _ 0 [] rfl (own0 w 29 5) _ n cap (zrs l) rfl (by rw [len_zrs, ← HN.out]) HH.out.nil HRw.out (zrs_one _) (by omega) (alloc_below w _).size ?_; intro ao3 cap3 w3 own3 grow3; rw [Nat.zero_add, List.nil_append] at own3; simp only [Nat.zero_add]; apply Hid.out))
  have HM : Hid (MineZ w3 w.heap.size ao3 n cap3 l) := ⟨HN.out, own3⟩
  have B := hid (app_below grow3)
  unfold Hid
  clear own3 grow3 HRw
  obtain ⟨g, hg⟩ : ∃ g, rnA l = g := ⟨_, rfl⟩
  have HG : Hid (Ok g) := by rw [← hg]; exact rn_ok l
  obtain ⟨c, hc⟩ : ∃ c, rnN l = c := ⟨_, rfl⟩
  have hcn : c ≤ 80 := by rw [← hc]; have := rnN_le l; have := HN.out; omega
  have HA := hid hg
  have HC := hid hc
  clear hg hc
  go_wp2_with fail
  refine (run_at g c (by omega) HM.out.has HA.out HC.out).mono ?_
  rintro e w4 ⟨x, rfl, h4, b4⟩
  have X1 := hid (hg_new h4)
  replace B := hid (q_alloc (q_trans B.out b4) (.cells #[.slice x.k.o x.k.n x.k.c, .slice x.i.o x.i.n x.i.c, .slice x.f.o x.f.n x.f.c] 25))
  clear h4 b4
  go_upto_region 4 with fail
  generalize w4.heap.size = p1 at X1 ⊢
  generalize w4.alloc (.cells #[.slice x.k.o x.k.n x.k.c, .slice x.i.o x.i.n x.i.c, .slice x.f.o x.f.n x.f.c] 25) = w5 at X1 B ⊢
  have h := rrun_any ao n cap l w5 (by omega) (HH.out.below B.out)
  rw [HA.out, HC.out] at h
  go_wp2_with fail
  refine h.mono ?_
  clear h
  rintro e w6 ⟨y, rfl, h6, b6⟩
  replace b6 := q_alloc b6 (.cells #[.slice y.k.o y.k.n y.k.c, .slice y.i.o y.i.n y.i.c, .slice y.f.o y.f.n y.f.c] 25)
  have X2 := hid (hg_new h6)
  replace X1 := hid (X1.out.below b6)
  replace B := hid (q_trans B.out b6)
  clear b6 h6
  go_upto_region 5 with fail
  generalize w6.heap.size = p2 at X2 ⊢
  generalize w6.alloc (.cells #[.slice y.k.o y.k.n y.k.c, .slice y.i.o y.i.n y.i.c, .slice y.f.o y.f.n y.f.c] 25) = V at X1 X2 B ⊢
  have C1 : Hid (∀ X, Below V.heap.size V X → Calls Try.prog 13 #[(.agg #[.slice x.k.o x.k.n x.k.c, .slice x.i.o x.i.n x.i.c, .slice x.f.o x.f.n x.f.c]), (.agg #[.slice y.k.o y.k.n y.k.c, .slice y.i.o y.i.n y.i.c, .slice y.f.o y.f.n y.f.c])] X fun e w' => e = .returned (.bool true) ∧ Below X.heap.size X w') := fun X q => by
    have hs := X1.out.has.small HG.out
    have r := gsame_any x y g g X (by omega) (by omega) (by omega) (X1.out.has.below q) (X2.out.has.below q)
    rwa [sgB_refl] at r
  have C2 : Hid (∀ X, Below V.heap.size V X → Calls Try.prog 15 #[(.agg #[.slice x.k.o x.k.n x.k.c, .slice x.i.o x.i.n x.i.c, .slice x.f.o x.f.n x.f.c])] X fun e w' => e = .returned (.int .i64 0) ∧ Below X.heap.size X w') := fun X q => ck_at 0 (X1.out.has.below q) HG.out (cg_yes HG.out)
  have hcc : ((c : Int) == (c : Int)) = true := by simp
  have HV := hid (Below.refl V.heap.size V)
  obtain ⟨x0, x1, x2⟩ := (X1.out.gb.below HV.out).inW.inG
  obtain ⟨t0, t1, t2⟩ := (X2.out.gb.below HV.out).inW.inG
  go_wp2_with fail
  refine (C1.out _ HV.out).mono ?_
  rintro e w7 ⟨rfl, b7⟩
  replace HV := hid (q_trans HV.out b7)
  clear b7 x0 x1 x2 t0 t1 t2
  obtain ⟨x0, x1, x2⟩ := (X1.out.gb.below HV.out).inW.inG
  go_wp2_with fail
  refine (C2.out _ HV.out).mono ?_
  rintro e w8 ⟨rfl, b8⟩
  replace HV := hid (q_trans HV.out b8)
  clear b8 x0 x1 x2
  go_wp2_with fail
  refine (gnum_low 0 _).mono ?_
  rintro e w10 ⟨rfl, b8⟩
  replace HV := hid (q_trans HV.out b8)
  clear b8
  go_wp2_with fail
  refine (live_any _).mono ?_
  rintro e w11 ⟨rfl, b8⟩
  replace HV := hid (q_trans HV.out b8)
  clear b8
  go_wp2_with fail
  go_ret
  exact ⟨rfl, q_trans B.out HV.out⟩
/-- GHOSTRUNS. -/
theorem runs_any (ao : Option Addr) (n cap : Nat) (l : List Bi) (w : World) (HH : Hid (HasZ w ao n cap l)) :
    Calls Try.prog 5 #[.slice ao n cap] w fun e w' => e = .returned (.bool true) ∧ Below w.heap.size w w' := by
  by_cases h : n ≤ 80
  · exact runs_in ao n cap l w h HH
  · exact runs_long ao n cap w (by omega)
end Go.Proofs.Ytcldnacpddebcaa.Gh
