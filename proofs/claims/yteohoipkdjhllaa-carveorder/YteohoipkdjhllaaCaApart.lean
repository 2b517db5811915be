/- What Apart does: the program's, the document's. -/
import Derived.Test.YteohoipkdjhllaaCaSort
import Derived.Test.YteohoipkdjhllaaCaSame
namespace Go.Proofs.Yteohoipkdjhllaa.Ca
open Go.RowKit Go.Lib

/-- Sorted by their starts, and neighbours apart: all are. -/
def Nb (l : List X) (k : Nat) : Prop := ∀ j, j < k → okX (l.getD j (0, 0)) = true ∧ (0 < j → meB (l.getD (j - 1) (0, 0)) (l.getD j (0, 0)) = false)
def Srt (l : List X) : Prop := ∀ i j, i < j → j < l.length → (l.getD i (0, 0)).1 ≤ (l.getD j (0, 0)).1
theorem nb_step {l : List X} {k : Nat} (h : Nb l k) (h1 : okX (l.getD k (0, 0)) = true) (h2 : 0 < k → meB (l.getD (k - 1) (0, 0)) (l.getD k (0, 0)) = false) : Nb l (k + 1) := by
  intro j hj
  by_cases e : j = k
  · subst e; exact ⟨h1, h2⟩
  · exact h j (by omega)
theorem nb_far {l : List X} (hs : Srt l) (h : Nb l l.length) : ∀ d i, i + d + 1 < l.length → (l.getD i (0, 0)).1 + (l.getD i (0, 0)).2 ≤ (l.getD (i + d + 1) (0, 0)).1 := by
  intro d
  induction d with
  | zero =>
    intro i hi
    have hm := (h (i + 1) (by omega)).2 (by omega)
    have h1 := (h i (by omega)).1
    have h2 := (h (i + 1) (by omega)).1
    have hsr := hs i (i + 1) (by omega) (by omega)
    rw [show i + 1 - 1 = i by omega] at hm
    rw [Nat.add_zero]
    apply Classical.byContradiction
    intro hn
    have o2 := ok_iff.1 h2
    have : meB (l.getD i (0, 0)) (l.getD (i + 1) (0, 0)) = true := me_iff.2 ⟨h1, h2, by omega, by omega⟩
    rw [this] at hm
    cases hm
  | succ d ih =>
    intro i hi
    have := ih i (by omega)
    have hsr := hs (i + d + 1) (i + (d + 1) + 1) (by omega) hi
    omega
theorem nb_ap {l : List X} (hs : Srt l) (h : Nb l l.length) : Ap l := by
  refine ⟨fun a ha => ?_, ?_⟩
  · obtain ⟨i, hi, rfl⟩ := List.getElem_of_mem ha
    have := (h i hi).1
    rwa [getD_lt hi] at this
  · rw [List.pairwise_iff_getElem]
    intro i j hi hj hij
    have := nb_far hs h (j - i - 1) i (by omega)
    rw [show i + (j - i - 1) + 1 = j by omega, getD_lt hi, getD_lt hj] at this
    cases hm : meB l[i] l[j] with
    | false => rfl
    | true =>
      have := me_iff.1 hm
      omega
theorem not_ap_ok {l : List X} {k : Nat} (hk : k < l.length) (h : okX (l.getD k (0, 0)) = false) : ¬ Ap l := by
  intro ha
  rw [getD_lt hk, ha.1 _ (List.getElem_mem hk)] at h
  cases h
theorem not_ap_me {l : List X} {i k : Nat} (hi : i < k) (hk : k < l.length) (h : meB (l.getD i (0, 0)) (l.getD k (0, 0)) = true) : ¬ Ap l := by
  intro ha
  have := List.pairwise_iff_getElem.1 ha.2 i k (by omega) hk hi
  rw [getD_lt hk, getD_lt (by omega : i < l.length), this] at h
  cases h
theorem ap_perm {l m : List X} (h : l.Perm m) : apB l = apB m := by
  rw [Bool.eq_iff_iff, ap_iff, ap_iff, Ap.perm h]

/-- A list in memory, from which is read alone: what the sort leaves. -/
theorem sort_any (ao : Option Addr) (n cap : Nat) (l : List X) (w : World) (B : Nat) (hs : n ≤ 5000) (hB : B ≤ w.heap.size) (h : MineX w B ao n cap l) :
    Calls Try.prog 33 #[.slice ao n cap, .func (.func 34) #[] #[]] w fun e w1 => e = .returned (.tuple #[]) ∧ ∃ d : List X, n = d.length ∧ d.Perm l ∧ Srt d ∧ HasX w1 ao n cap d ∧ Below B w w1 := by
  have hlen := h.1
  by_cases hn : n = 0
  · have hl : l = [] := List.eq_nil_of_length_eq_zero (by omega)
    subst hl hn
    refine (sortf_none ao cap w).mono ?_
    rintro e w1 ⟨rfl, rfl⟩
    exact ⟨rfl, [], rfl, List.Perm.refl _, fun i j _ hj => by simp at hj, h.has, Below.refl _ _⟩
  · obtain ⟨g, cap', cur, e, hb, hg, h1, h2, h3, h4⟩ : ∃ (g cap' : Nat) (cur : Array Value), Value.slice ao n cap = .slice (some ⟨g, 0, none⟩) n cap' ∧ B ≤ g ∧ w.heap[g]? = some (.cells cur 23) ∧ n ≤ cap' ∧ cap' ≤ maxLen ∧ cur.size = cap' * 2 ∧ cur.toList.take (n * 2) = exts l := by
      rcases h.2.2 with ⟨e, e2⟩ | ⟨g, cap', cur, e, rest⟩
      · exact absurd e2 (by omega)
      · exact ⟨g, cap', cur, e, rest⟩
    cases e
    have hglt : g < w.heap.size := (Array.getElem?_eq_some_iff.1 hg).1
    subst hlen
    refine (sortf_some g cap l w (own_lay h.2) hglt hs).mono ?_
    rintro e w1 ⟨rfl, d, hsz, hp, hso, hL, hk⟩
    refine ⟨rfl, d.toList, by simp [hsz], hp, ?_, ⟨by simp [hsz], (fun h => by cases h), h1, ?_⟩, hk.below B hB (fun i e => by omega)⟩
    · intro i j hij hj
      have hj' : j < d.size := by simpa using hj
      have := hso i j hij hj'
      have hi' : i < d.size := by omega
      simp only [ltX, decide_eq_false_iff_not] at this
      simp [List.getD, hj', hi'] at this ⊢
      omega
    · exact lay_row hL _ (fun j hj => ⟨by simpa using hj, by simp at hj; simp [hj]⟩)
set_option maxRecDepth 100000 in
set_option maxHeartbeats 2000000 in
/-- APART: the program's. -/
theorem apart_any (ao : Option Addr) (n cap : Nat) (l : List X) (w : World) (hs : n ≤ 1000) (HH : Hid (HasX w ao n cap l)) :
    Calls Try.prog 26 #[.slice ao n cap] w fun e w' => e = .returned (.bool (apB l)) ∧ Below w.heap.size w w' := by
  go_enter Try.func26, Try.ntmps26
  go_wp2_with fail
  refine (clone_any ao n cap l w (by omega) HH.out).mono ?_
  rintro e w1 ⟨ao1, cap1, rfl, hm, b1⟩
  have HT := hid (sort_any ao1 n cap1 l w1 w.heap.size (by omega) b1.size hm)
  have B1 := hid b1
  clear hm b1
  go_wp2_with fail
  refine HT.out.mono ?_
  rintro e w2 ⟨rfl, d, hn, hp, hsr, hd, b2⟩
  have HN := hid hn
  have HP := hid (ap_perm hp)
  have HSr := hid hsr
  have HD := hid hd
  have B2 := hid (B1.out.trans b2)
  clear hn hp hsr hd b2 HT B1
  go_wp2_with fail
  go_loopw [11] (fun i wr => ∃ k : Nat, k ≤ n ∧ i = .int .i64 k ∧ Hid (Nb d k) ∧ Hid (Below w2.heap.size w2 wr)) (fun i _ => n - (intOf i).toNat)
  case atStart => exact ⟨0, Nat.zero_le _, rfl, fun j hj => absurd hj (by omega), Below.refl _ _⟩
  case round =>
    obtain ⟨k, hk, rfl, HB, HL⟩ := hrel
    by_cases hlt : k < n
    · have i1 : (0 : Int) ≤ (k : Int) := by omega
      have i2 : (k : Int) < (n : Int) := by omega
      obtain ⟨a, rfl, ca⟩ := atX_of (HD.out.row.below HL.out) k (by have := HN.out; omega)
      obtain ⟨x, hx⟩ : ∃ x, d.getD k (0, 0) = x := ⟨_, rfl⟩
      rw [hx] at ca
      have HX := hid hx
      clear hx
      obtain ⟨f0, f1⟩ := ca.always
      have hne : Nonempty (Later wr) := ⟨⟨wr, Below.refl _ _⟩⟩
      clear ca
      cases hok : okX x with
      | false =>
        have hc := fun (W : World) => is_check (w := W) (chk_no hok)
        have HF : Hid (apB l = false) := by unfold Hid; rw [← HP.out]; exact ap_not (not_ap_ok (k := k) (by have := HN.out; omega) (by rw [HX.out]; exact hok))
        clear hok
        go_wp2_with fail
        refine wp_region_later (by kernel_rfl) (by kernel_rfl) ?_
        repeat (go_big_quiet_step (first | (go_at_call 12; exact later_call (hc _))))
        refine wpQuiet_nil ?_
        rintro w9 ⟨⟨_, b9⟩, rfl⟩
        have HBE := hid (q_trans HL.out b9)
        clear f0 f1 hne hc b9
        go_wp2_with fail
        go_ret
        exact ⟨ret_bool HF.out.symm, B2.out.trans (HBE.out.mono B2.out.size)⟩
      | true =>
        have hc := fun (W : World) => is_check (w := W) (chk_yes hok)
        have HK := hid hok
        clear hok
        by_cases hk0 : 0 < k
        · have i3 : (0 : Int) ≤ (k : Int) - 1 := by omega
          have i4 : (k : Int) - 1 < (n : Int) := by omega
          have d0 : decide ((0 : Int) < (k : Int)) = true := by simp; omega
          obtain ⟨b, e, cb⟩ := atX_of (HD.out.row.below HL.out) (k - 1) (by have := HN.out; omega)
          cases e
          obtain ⟨y, hy⟩ : ∃ y, d.getD (k - 1) (0, 0) = y := ⟨_, rfl⟩
          rw [hy] at cb
          have HY := hid hy
          clear hy
          obtain ⟨g0, g1⟩ := cb.always
          clear cb
          cases hme : meB y x with
          | true =>
            have hm := fun (W : World) => is_meet (w := W) hme
            have HF : Hid (apB l = false) := by unfold Hid; rw [← HP.out]; exact ap_not (not_ap_me (i := k - 1) (k := k) (by omega) (by have := HN.out; omega) (by rw [HX.out, HY.out]; exact hme))
            clear hme
            go_wp2_with fail
            refine wp_region_later (by kernel_rfl) (by kernel_rfl) ?_
            repeat (go_big_quiet_step (first | (go_at_call 12; exact later_call (hc _)) | (go_at_call 18; exact later_call (hm _))))
            refine wpQuiet_nil ?_
            rintro w9 ⟨⟨_, b9⟩, rfl⟩
            have HBE := hid (q_trans HL.out b9)
            clear f0 f1 g0 g1 hne hc hm b9
            go_wp2_with fail
            go_ret
            exact ⟨ret_bool HF.out.symm, B2.out.trans (HBE.out.mono B2.out.size)⟩
          | false =>
            have hm := fun (W : World) => is_meet (w := W) hme
            have HM := hid hme
            clear hme
            go_wp2_with fail
            refine wp_region_later (by kernel_rfl) (by kernel_rfl) ?_
            repeat (go_big_quiet_step (first | (go_at_call 12; exact later_call (hc _)) | (go_at_call 18; exact later_call (hm _))))
            refine wpQuiet_nil ?_
            rintro w9 ⟨⟨_, b9⟩, rfl⟩
            have HBE := hid (q_trans HL.out b9)
            clear f0 f1 g0 g1 hne hc hm b9
            go_wp2_with fail
            go_roundw
            case rel => exact ⟨k + 1, by omega, by go_num, nb_step HB.out (by rw [HX.out]; exact HK.out) (fun _ => by rw [HX.out, HY.out]; exact HM.out), HBE⟩
            case measure => simp [intOf]; omega
        · have d0 : decide ((0 : Int) < (k : Int)) = false := by simp; omega
          have d1 : decide (0 < k) = false := by simp; omega
          have HK0 := hid hk0
          clear hk0
          go_wp2_with fail
          refine wp_region_later (by kernel_rfl) (by kernel_rfl) ?_
          repeat (go_big_quiet_step (first | (go_at_call 12; exact later_call (hc _))))
          refine wpQuiet_nil ?_
          rintro w9 ⟨⟨_, b9⟩, rfl⟩
          have HBE := hid (q_trans HL.out b9)
          clear f0 f1 hne hc b9
          go_wp2_with fail
          go_roundw
          case rel => exact ⟨k + 1, by omega, by go_num, nb_step HB.out (by rw [HX.out]; exact HK.out) (fun h => absurd h HK0.out), HBE⟩
          case measure => simp [intOf]; omega
    · have HA : Hid (apB l = true) := by
        unfold Hid
        rw [← HP.out, ap_iff]
        have : k = d.length := by have := HN.out; omega
        exact nb_ap HSr.out (this ▸ HB.out)
      go_wp2_with fail
      go_ret
      exact ⟨ret_bool HA.out.symm, (B2.out.trans (HL.out.mono B2.out.size))⟩
end Go.Proofs.Yteohoipkdjhllaa.Ca
