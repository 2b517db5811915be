/- What alone does. -/
import Derived.Test.YtaihabkacjbfjaaGrGrs
import Derived.Test.YtaihabkacjbfjaaGrCut
namespace Go.Proofs.Ytaihabkacjbfjaa.Gr
open Go.RowKit Go.Proofs.Ytaihabkacjbfjaa.Ce

/-- The grabs' plain state. -/
def stOf (xs : List Gh) (vs : List Int) : St := ⟨xs.map (fun x => x.g), vs⟩
theorem stOf_g (xs : List Gh) (vs : List Int) (i : Nat) (hi : i < xs.length) : (stOf xs vs).g i = (xs.getD i Gh.zero).g := by simp [stOf, St.g, List.getD, hi]
theorem stOf_len (xs : List Gh) (vs : List Int) : (stOf xs vs).gs.length = xs.length := by simp [stOf]
/-- How many locks the first i have. -/
def pre (xs : List Gh) (i : Nat) : Int := ((xs.take i).map (fun x => x.g.a)).sum
theorem pre_succ (xs : List Gh) (i : Nat) (hi : i < xs.length) : pre xs (i + 1) = pre xs i + (xs.getD i Gh.zero).g.a := by
  unfold pre
  rw [take_snoc xs Gh.zero i hi]
  simp
theorem pre_step (xs : List Gh) (vs : List Int) (h : Inv (stOf xs vs)) (i : Nat) (hi : i < xs.length) : pre xs i ≤ pre xs (i + 1) := by
  rw [pre_succ xs i hi]
  have := (h.ok i (by rw [stOf_len]; exact hi)).a0
  rw [stOf_g xs vs i hi] at this
  omega
theorem pre_mono (xs : List Gh) (vs : List Int) (h : Inv (stOf xs vs)) (i d : Nat) (hi : i + d ≤ xs.length) : pre xs i ≤ pre xs (i + d) := by
  induction d with
  | zero => exact Int.le_refl _
  | succ d ih => exact Int.le_trans (ih (by omega)) (pre_step xs vs h (i + d) (by omega))
theorem pre_all (xs : List Gh) (vs : List Int) (h : Inv (stOf xs vs)) : pre xs xs.length = ((vs.countP (fun x => x != 0) : Nat) : Int) := by
  have := h.sum
  simp only [stOf, List.map_map] at this
  unfold pre
  rw [List.take_length, ← this]
  rfl
theorem pre_bound (xs : List Gh) (vs : List Int) (h : Inv (stOf xs vs)) (i : Nat) (hi : i ≤ xs.length) : 0 ≤ pre xs i ∧ pre xs i ≤ 8 := by
  have h0 : pre xs 0 = 0 := by simp [pre]
  have h1 := pre_mono xs vs h 0 i (by omega)
  have h2 := pre_mono xs vs h i (xs.length - i) (by omega)
  rw [Nat.zero_add, h0] at h1
  rw [show i + (xs.length - i) = xs.length by omega, pre_all xs vs h] at h2
  have h3 := List.countP_le_length (p := fun x : Int => x != 0) (l := vs)
  have h4 : vs.length = 8 := h.len
  omega
/-- How many of the first i cells are taken. -/
def cntV (vs : List Int) (i : Nat) : Nat := (vs.take i).countP (fun x => x != 0)
theorem cntV_succ (vs : List Int) (i : Nat) (hi : i < vs.length) : cntV vs (i + 1) = cntV vs i + (if vs.getD i 0 = 0 then 0 else 1) := by
  unfold cntV
  rw [take_snocI vs i hi, List.countP_append]
  by_cases h : vs.getD i 0 = 0
  · rw [if_pos h, h]
    simp
  · rw [if_neg h]
    simp only [List.countP_singleton]
    rw [if_pos (by simpa using h)]
theorem cntV_le (vs : List Int) (i : Nat) : cntV vs i ≤ i := by
  unfold cntV
  have := List.countP_le_length (p := fun x : Int => x != 0) (l := vs.take i)
  simp at this
  omega

theorem rise_len {l : List Int} (h : Rise l) (hl : ∀ c, c ∈ l → 0 ≤ c ∧ c < 8) : l.length ≤ 8 := by
  have key : ∀ i, i < l.length → (i : Int) ≤ l.getD i 0 := by
    intro i
    induction i with
    | zero => intro hi; exact (hl _ (by simp [List.getD, hi])).1
    | succ i ih =>
      intro hi
      have h1 := ih (by omega)
      have h2 := rise_lt h (i := i) (j := i + 1) (by omega) hi
      omega
  by_cases e : l.length = 0
  · omega
  · have h1 := key (l.length - 1) (by omega)
    have h2 := hl (l.getD (l.length - 1) 0) (by rw [List.getD, List.getElem?_eq_getElem (show l.length - 1 < l.length by omega)]; simp)
    omega
set_option maxRecDepth 100000 in
set_option maxHeartbeats 4000000 in
/-- EACH LOCK HAS ITS ONE HOLDER. -/
theorem alone_any {w W : World} {p gb vcap : Nat} {tao : Option Addr} {tcap : Nat} {s : S} {go : Option Addr} {gcap : Nat} {xs : List Gh} (n : Nat) (HS : Hid (Sys w W p gb vcap tao tcap s go gcap xs)) (HI : Hid (Inv (stOf xs s.vs))) (HL : Hid (xs.length = n)) (h6 : n ≤ 6) :
    Calls Try.prog 26 #[.pointer (some ⟨p, 0, none⟩), .slice go n gcap] W fun e w' => e = .returned (.bool true) ∧ Below W.heap.size W w' := by
  have HV8 : Hid (s.vs.length = 8) := HI.out.len
  have CP := hid (peek_any (hid HS.out.cel) (by have := HV8.out; omega))
  rw [HV8.out] at CP
  go_enter Try.func26, Try.ntmps26
  go_wp2_with fail
  refine CP.out.mono ?_
  rintro e w1 ⟨vo, vc, rfl, own1, b1⟩
  have HVR := hid (own_row own1).1
  have HS1 := hid (HS.out.below b1)
  have HB1 := hid b1
  clear own1 b1 CP HS
  go_wp2_with fail
  go_loopw [6, 7] (fun sc i wr => ∃ (j : Nat) (c : Int), j ≤ n ∧ i = .int .i64 j ∧ sc = .int .i64 c ∧ Hid (c = pre xs j) ∧ Hid (Below w1.heap.size w1 wr)) (fun _ i _ => n - (intOf i).toNat)
  case atStart => exact ⟨0, 0, Nat.zero_le _, rfl, rfl, by simp [Hid, pre], Below.refl _ _⟩
  case round =>
    obtain ⟨j, c, hj, rfl, rfl, HC, HB⟩ := hrel
    have hc8 := pre_bound xs s.vs HI.out j (by rw [HL.out]; exact hj)
    rw [← HC.out] at hc8
    obtain ⟨hc0, hc8⟩ := hc8
    by_cases hlt : j < n
    · have i1 : (0 : Int) ≤ (j : Int) := by omega
      have i2 : (j : Int) < (n : Int) := by omega
      have HSr := hid (HS1.out.below HB.out)
      obtain ⟨g, e⟩ := HSr.out.blk (by have := HL.out; omega)
      subst e
      have hjx : j < xs.length := by rw [HL.out]; exact hlt
      have hOK := HI.out.ok j (by rw [stOf_len]; exact hjx)
      have hHD := HI.out.hold j (by rw [stOf_len]; exact hjx)
      rw [stOf_g xs s.vs j hjx] at hOK hHD
      have hAt := HSr.out.at_ j hjx
      have hHas := HSr.out.has j hjx
      have hPS := pre_succ xs j hjx
      have hPB := pre_bound xs s.vs HI.out (j + 1) (by omega)
      generalize xs.getD j Gh.zero = x at hOK hHD hAt hHas hPS
      obtain ⟨⟨gw, gcs, gp, ga, gt, gbb⟩, gao, gcp⟩ := x
      simp only at hOK hHas hPS
      have a0 := hAt 0 _ rfl
      have a1 := hAt 1 _ rfl
      have a2 := hAt 2 _ rfl
      have a3 := hAt 3 _ rfl
      have a4 := hAt 4 _ rfl
      have a5 := hAt 5 _ rfl
      simp only [Nat.add_zero] at a0 a1 a2 a3 a4 a5
      have hgw : gw = (j : Int) + 1 := hOK.w
      subst hgw
      obtain ⟨m, rfl⟩ : ∃ m : Nat, ga = (m : Int) := ⟨ga.toNat, by have := hOK.a0; simp only at this; omega⟩
      obtain ⟨cl, hcl⟩ : ∃ cl, gcs.length = cl := ⟨_, rfl⟩
      have hmc : m ≤ cl := by have := hOK.al; simp only at this; omega
      rw [hcl] at a1 hHas
      have HCL := hid hcl
      have HOK := hid hOK
      have HHD := hid hHD
      have HHA := hid hHas
      have hcm : c + m ≤ 8 := by have := HC.out; omega
      have HPS := hid hPS
      have HAT := hid (And.intro a0 (And.intro a1 a2))
      have hcl8 : cl ≤ 5000 := by
        have := rise_len HOK.out.rise HOK.out.low
        simp only at this
        have := HCL.out
        omega
      clear hOK hHD hAt hHas hPS hPB hcl
      have CH := hid (fun W' H => held_any ⟨(j : Int) + 1, gcs, gp, (m : Int), gt, gbb⟩ gao cl gcp W' H hcl8)
      go_wp2_with fail
      refine (CH.out _ HHA.out).mono ?_
      rintro e w2 ⟨ho, mh, hcap, rfl, mm2, b2⟩
      obtain rfl : mh = m := by
        have h1 := mm2.has.len
        rw [h1]
        unfold heldG
        rw [List.length_take]
        have := HCL.out
        simp only
        omega
      have HHH := hid mm2.has
      have HB2 := hid b2
      clear mm2 b2 a0 a1 a2 a3 a4 a5 CH
      have HS2 := hid (HSr.out.below HB2.out)
      have HT2 := hid (q_trans HB.out HB2.out)
      have HV2 := hid (HVR.out.below HT2.out)
      have A0 := hid ((HB2.out.cell (World.block_lt_of_cell? wr _ HAT.out.1)).trans HAT.out.1)
      have A1 := hid ((HB2.out.cell (World.block_lt_of_cell? wr _ HAT.out.2.1)).trans HAT.out.2.1)
      have A2 := hid ((HB2.out.cell (World.block_lt_of_cell? wr _ HAT.out.2.2)).trans HAT.out.2.2)
      clear HSr HB HB2 HAT HHA
      go_wp2_with fail
      go_loopw [6, 9] (fun sc i wr => ∃ k : Nat, k ≤ mh ∧ i = .int .i64 k ∧ sc = .int .i64 (c + k) ∧ Hid (Below w2.heap.size w2 wr)) (fun _ i _ => mh - (intOf i).toNat)
      case atStart => exact ⟨0, Nat.zero_le _, rfl, by simp, Below.refl _ _⟩
      case round =>
        obtain ⟨k, hk, rfl, rfl, HB3⟩ := hrel
        by_cases hkm : k < mh
        · have k1 : (0 : Int) ≤ (k : Int) := by omega
          have k2 : (k : Int) < (mh : Int) := by omega
          have hkc : k < gcs.length := by rw [HCL.out]; omega
          obtain ⟨X, hX8, hX⟩ := cell_of HOK.out (k := k) hkc
          obtain ⟨ah, e, ch⟩ := (HHH.out.below HB3.out).cell k hkm
          subst e
          have eh : (heldG ⟨(j : Int) + 1, gcs, gp, (mh : Int), gt, gbb⟩).getD k 0 = (X : Int) := by
            rw [← hX]
            unfold heldG
            simp only [List.getD, Int.toNat_natCast]
            rw [List.getElem?_take_of_lt hkm]
          rw [eh] at ch
          have hv : s.vs.getD X 0 = (j : Int) + 1 := (HHD.out X hX8).2 (by
            rw [← eh, List.getD, List.getElem?_eq_getElem (by unfold heldG; rw [List.length_take]; simp only [Int.toNat_natCast]; omega)]
            simp)
          obtain ⟨av, e, cv⟩ := (HV2.out.below HB3.out).cell X _ (vals_at s.vs X (by have := HV8.out; omega))
          subst e
          rw [hv] at cv
          have cg := (HB3.out.cell (World.block_lt_of_cell? w2 _ A0.out)).trans A0.out
          have x1 : (0 : Int) ≤ (X : Int) := by omega
          have x2 : (X : Int) < 8 := by omega
          clear eh hv hX
          go_wp2_with fail
          go_quiet (fail)
          go_wp2_with fail
          have HB4 := hid (q_trans HB3.out (q_drewN (Below.refl _ wr) nq))
          go_roundw
          case rel => exact ⟨k + 1, by omega, by go_num, by simp [Int.add_assoc], HB4⟩
          case measure => simp [intOf]; omega
        · obtain rfl : k = mh := by omega
          have HPC : Hid (c + (k : Int) = pre xs (j + 1)) := by have := HPS.out; have := HC.out; show _ = _; omega
          have HB5 := hid (q_trans HT2.out HB3.out)
          have c1 := (HB3.out.cell (World.block_lt_of_cell? w2 _ A1.out)).trans A1.out
          have c2 := (HB3.out.cell (World.block_lt_of_cell? w2 _ A2.out)).trans A2.out
          have hph := HOK.out.ph
          simp only at hph
          rcases hph with ⟨rfl, h2⟩ | ⟨rfl, h2⟩ | ⟨rfl, h2⟩ | ⟨rfl, h2⟩ | ⟨rfl, h2⟩
          · clear h2
            go_wp2_with fail
            go_roundw
            case rel => exact ⟨j + 1, _, by omega, by go_num, rfl, HPC, HB5⟩
            case measure => simp [intOf]; omega
          · obtain rfl : k = cl := by have := HCL.out; omega
            clear h2
            go_wp2_with fail
            go_roundw
            case rel => exact ⟨j + 1, _, by omega, by go_num, rfl, HPC, HB5⟩
            case measure => simp [intOf]; omega
          · clear h2
            go_wp2_with fail
            go_roundw
            case rel => exact ⟨j + 1, _, by omega, by go_num, rfl, HPC, HB5⟩
            case measure => simp [intOf]; omega
          · clear h2
            go_wp2_with fail
            go_roundw
            case rel => exact ⟨j + 1, _, by omega, by go_num, rfl, HPC, HB5⟩
            case measure => simp [intOf]; omega
          · obtain rfl : k = 0 := by omega
            clear h2
            go_wp2_with fail
            go_roundw
            case rel => exact ⟨j + 1, _, by omega, by go_num, rfl, HPC, HB5⟩
            case measure => simp [intOf]; omega
    · obtain rfl : j = n := by omega
      have HT : Hid (c = ((cntV s.vs 8 : Nat) : Int)) := by
        have h1 := pre_all xs s.vs HI.out
        rw [HL.out, ← HC.out] at h1
        unfold cntV
        rw [List.take_of_length_le (by have := HV8.out; omega)]
        exact h1
      have HV2 := hid (HVR.out.below HB.out)
      have HB1' := hid (q_trans HB1.out HB.out)
      obtain ⟨W3, hW3⟩ : ∃ W3, W3 = wr := ⟨_, rfl⟩
      subst hW3
      go_wp2_with fail
      go_loop [6, 10] (fun sc i => ∃ q : Nat, q ≤ 8 ∧ i = .int .i64 q ∧ sc = .int .i64 (c - (cntV s.vs q : Nat))) (fun _ i => 8 - (intOf i).toNat)
      case atStart => exact ⟨0, by decide, rfl, by simp [cntV]⟩
      case round =>
        obtain ⟨q, hq, rfl, rfl⟩ := hrel
        have hcq := cntV_le s.vs q
        by_cases hq8 : q < 8
        · have q1 : (0 : Int) ≤ (q : Int) := by omega
          have q2 : (q : Int) < 8 := by omega
          have hcs := cntV_succ s.vs q (by have := HV8.out; omega)
          obtain ⟨av, e, cv⟩ := HV2.out.cell q _ (vals_at s.vs q (by have := HV8.out; omega))
          subst e
          have HCS := hid hcs
          obtain ⟨d, hd⟩ : ∃ d, cntV s.vs q = d := ⟨_, rfl⟩
          rw [hd] at hcq hcs ⊢
          clear hd
          obtain ⟨y, hy⟩ : ∃ y, s.vs.getD q 0 = y := ⟨_, rfl⟩
          rw [hy] at cv hcs
          clear hy
          by_cases hy0 : y = 0
          · rw [if_pos hy0] at hcs
            have HD := hid hcs
            have hy1 : (y != 0) = false := by simpa using hy0
            clear hcs hy0
            go_wp2_with fail
            go_round
            case rel => exact ⟨q + 1, by omega, by go_num, by rw [HD.out]; rfl⟩
            case measure => simp [intOf]; omega
          · rw [if_neg hy0] at hcs
            have HD := hid hcs
            have hy1 : (y != 0) = true := by simpa using hy0
            clear hcs hy0
            go_wp2_with fail
            go_round
            case rel => exact ⟨q + 1, by omega, by go_num, by rw [HD.out]; congr 1; omega⟩
            case measure => simp [intOf]; omega
        · obtain rfl : q = 8 := by omega
          have e : c - ((cntV s.vs 8 : Nat) : Int) = 0 := by have := HT.out; omega
          rw [e]
          clear e
          go_wp2_with fail
          go_ret
          exact ⟨rfl, HB1'.out⟩
end Go.Proofs.Ytaihabkacjbfjaa.Gr
