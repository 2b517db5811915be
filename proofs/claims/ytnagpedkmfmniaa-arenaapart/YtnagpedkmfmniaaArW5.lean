/- What freeOnce does: the walk. -/
import Derived.Test.YtnagpedkmfmniaaArW4
namespace Go.Proofs.Ytnagpedkmfmniaa.Ar
open Go.RowKit Go.Proofs.Ytnagpedkmfmniaa.Ha

theorem new2 (w : World) (o : Obj) (cs : Array Value) (T : TypeId) (j : Nat) : ((w.alloc o).alloc (.cells cs T)).cell? ⟨w.heap.size + 1, j, none⟩ = cs[j]? := by
  have h := World.cell?_alloc_new (w.alloc o) cs T j
  rwa [show (w.alloc o).heap.size = w.heap.size + 1 by simp] at h
set_option maxRecDepth 100000 in
set_option maxHeartbeats 4000000 in
theorem once_any (x : Wh) (a : Ar) (w : World) (HT : Hid (a.ts.length ≤ 64)) (HS : Hid (Sm a)) (HH : Hid (HasA w x a)) :
    Calls Try.prog 32 #[(.agg #[.slice x.t.o x.t.n x.t.c, .slice x.f.o x.f.n x.f.c])] w fun e w' => e = .returned (.bool (plB a)) ∧ Below w.heap.size w w' := by
  obtain ⟨⟨to, tn, tc⟩, ⟨fo, fn, fc⟩⟩ := x
  have HFN := hid HH.out.fn
  have HTN := hid HH.out.tn
  go_enter Try.func32, Try.ntmps32
  go_wp2
  go_loopw [11] (fun i wr => ∃ c : Nat, c ≤ fn ∧ i = .int .i64 c ∧ Hid (Fo w wr ⟨⟨to, tn, tc⟩, ⟨fo, fn, fc⟩⟩ a (a.fr.take c).flatten)) (fun i _ => fn - (intOf i).toNat)
  case atStart =>
    refine ⟨0, Nat.zero_le _, rfl, q_alloc (alloc_below w _) _, (inA_new w ⟨⟨to, tn, tc⟩, ⟨fo, fn, fc⟩⟩ _).below (alloc_below _ _), fun j hj => ?_, fun j => by simp, fun p hp => by simp at hp, fun p hp => by simp at hp⟩
    rw [new2]
    show (Array.replicate 64 (Value.bool false))[j]? = _
    simp [hj]
  case round =>
    obtain ⟨c, hc, rfl, HF⟩ := hrel
    by_cases hlt : c < fn
    · have i1 : (0 : Int) ≤ (c : Int) := by omega
      have i2 : (c : Int) < (fn : Int) := by omega
      have HC : Hid (c < a.fr.length) := by have := HFN.out; exact (by omega : c < a.fr.length)
      have hm : fn ≤ 1000 := by have := HFN.out; have := HS.out.f; omega
      obtain ⟨fa, lo, m, lc, e, ca, hL⟩ := HH.out.list c HC.out
      have e : fo = some fa := e
      subst e
      have HM := hid hL.len
      have hm2 : m ≤ 1000 := by have := HM.out; have := HS.out.e c; omega
      have ca := (kept_below (S := fun _ => False) HF.out.low).cell ca (fun e => e)
      have HL := hid hL
      clear hL
      obtain ⟨c0, c1, cf⟩ := HF.out.box
      go_wp2
      clear c0 c1 cf ca
      go_loopw [17] (fun i wr => ∃ k : Nat, k ≤ m ∧ i = .int .i64 k ∧ Hid (Fo w wr ⟨⟨to, tn, tc⟩, ⟨some fa, fn, fc⟩⟩ a (upto a.fr c k))) (fun i _ => m - (intOf i).toNat)
      case atStart => exact ⟨0, Nat.zero_le _, rfl, by rw [upto_zero]; exact HF⟩
      case round =>
        obtain ⟨k, hk, rfl, HG⟩ := hrel
        by_cases hl2 : k < m
        · have j1 : (0 : Int) ≤ (k : Int) := by omega
          have j2 : (k : Int) < (m : Int) := by omega
          have HK : Hid (k < (a.fr.getD c []).length) := by have := HM.out; exact (by omega : k < (a.fr.getD c []).length)
          obtain ⟨la, rfl, cl⟩ := (HL.out.below HG.out.low).cell k hl2
          have HPM := hid (mem_at HC.out HK.out)
          obtain ⟨p, hp⟩ : ∃ p, (a.fr.getD c []).getD k 0 = p := ⟨_, rfl⟩
          rw [hp] at cl HPM
          have HP := hid hp
          clear hp
          obtain ⟨c0, c1, cf⟩ := HG.out.box
          go_wp2_with fail
          refine (there_any ⟨⟨to, tn, tc⟩, ⟨some fa, fn, fc⟩⟩ p _).mono ?_
          rintro e w1 ⟨rfl, b1⟩
          have HG := hid (HG.out.below b1)
          clear b1 c0 c1 cf cl
          by_cases hin : 0 ≤ p ∧ p < (tn : Int)
          · obtain ⟨q, rfl⟩ : ∃ q : Nat, p = (q : Int) := ⟨p.toNat, by omega⟩
            rw [thB_yes hin]
            obtain ⟨q1, q2⟩ := hin
            obtain ⟨ta, e, hAt⟩ := HH.out.t.at_ q (by show q < tn; omega)
            have e : to = some ta := e
            subst e
            obtain ⟨t, ht⟩ : ∃ t, a.ts.getD q Th.zero = t := ⟨_, rfl⟩
            rw [ht] at hAt
            have HTT := hid ht
            have HAt := hid hAt
            clear ht hAt
            obtain ⟨c0, c1, cf⟩ := HG.out.box
            obtain ⟨t0, t1, t2, t3, t4, t5, t6, t7⟩ := HAt.out.below HG.out.low
            go_wp2_with fail
            refine (live_any t _).mono ?_
            rintro e w2 ⟨rfl, b2⟩
            have HG := hid (HG.out.below b2)
            clear b2 c0 c1 cf t0 t1 t2 t3 t4 t5 t6 t7
            cases hb : liveT t with
            | true =>
              have HR := hid (pl_not HPM.out (fun k => by have := k.nl; rw [at_nat, HTT.out, hb] at this; cases this))
              clear hb
              go_wp2_with fail
              go_ret
              exact ⟨ret_bool HR.out.symm, HG.out.low⟩
            | false =>
              have HLV := hid hb
              clear hb
              obtain ⟨c0, c1, cf⟩ := HG.out.box
              obtain ⟨t0, t1, t2, t3, t4, t5, t6, t7⟩ := HAt.out.below HG.out.low
              go_wp2_with fail
              refine (retired_any t _).mono ?_
              rintro e w3 ⟨rfl, b3⟩
              have HG := hid (HG.out.below b3)
              clear b3 c0 c1 cf t0 t1 t2 t3 t4 t5 t6 t7
              cases hb : retT t with
              | true =>
                have HR := hid (pl_not HPM.out (fun k => by have := k.ng; rw [at_nat, HTT.out] at this; exact this (ret_iff.1 hb)))
                clear hb
                go_wp2_with fail
                go_ret
                exact ⟨ret_bool HR.out.symm, HG.out.low⟩
              | false =>
                have HGN := hid (ret_not.1 hb)
                clear hb
                have q3 : q < 64 := by have := HT.out; have := HTN.out; omega
                have q4 : (q : Int) < 64 := by omega
                have cs := HG.out.seen q q3
                have cfz := HG.out.fz q
                by_cases hm : (q : Int) ∈ upto a.fr c k
                · have HR : Hid (plB a = false) := pl_not HPM.out (fun k => by
                    have h1 := k.one
                    have h2 := count_upto HC.out HK.out (by rw [HP.out]; exact hm)
                    rw [HP.out] at h2
                    omega)
                  rw [decide_eq_true hm] at cs
                  clear hm
                  go_wp2_with fail
                  go_ret
                  exact ⟨ret_bool HR.out.symm, HG.out.low⟩
                · rw [decide_eq_false hm] at cs
                  have HX := hid (HG.out.store q (by have := HTN.out; omega) (by rw [at_nat, HTT.out]; exact HLV.out) (by rw [at_nat, HTT.out]; exact HGN.out) hm)
                  clear hm
                  go_wp2_with fail
                  go_roundw
                  case rel =>
                    refine ⟨k + 1, by omega, by go_num, ?_⟩
                    rw [upto_succ HK.out, HP.out]
                    exact HX
                  case measure => simp [intOf]; omega
          · rw [thB_no hin]
            have HR := hid (pl_not HPM.out (fun k => hin ⟨k.p0, by have := k.p1; have := HTN.out; omega⟩))
            clear hin
            go_wp2_with fail
            go_ret
            exact ⟨ret_bool HR.out.symm, HG.out.low⟩
        · obtain rfl : k = m := by omega
          have HX : Hid (Fo w wr ⟨⟨to, tn, tc⟩, ⟨some fa, fn, fc⟩⟩ a (a.fr.take (c + 1)).flatten) := by
            have := HG.out
            rw [HM.out, upto_full HC.out] at this
            exact this
          go_wp2_with fail
          go_roundw
          case rel => exact ⟨c + 1, by omega, by go_num, HX⟩
          case measure => simp [intOf]; omega
    · obtain rfl : c = fn := by omega
      have HR : Hid (plB a = true) := by
        have := HF.out
        rw [List.take_of_length_le (by have := HFN.out; omega)] at this
        exact pl_done this
      go_wp2_with fail
      go_ret
      exact ⟨ret_bool HR.out.symm, HF.out.low⟩
end Go.Proofs.Ytnagpedkmfmniaa.Ar
