/- CarveApart answers true. -/
import Derived.Test.YteohoipkdjhllaaCaGives
namespace Go.Proofs.Yteohoipkdjhllaa.Ca
open Go.RowKit

/-- What the round looks at. -/
structure At (x : X) (v u s : Int) (y : X) : Prop where
  i : inB y x = true
  sz : y.2 = s
  md : Int.tmod y.1 s = 0
  lo : v ≤ y.1 - x.1
  hi : y.1 - x.1 ≤ u - s
  s1 : 1 ≤ s
  s2 : s ≤ 1048576
  y1 : 0 ≤ y.1
  y2 : y.1 ≤ 1048576
  x1 : 0 ≤ x.1
  x2 : x.1 ≤ 1048576
  u1 : 0 ≤ u
  u2 : u ≤ 1048576
  xy : x.1 ≤ y.1
theorem laid_at {x : X} {v u : Int} {l : List Int} {m : List X} (h : Laid x v u l m) {k : Nat} (hk : k < m.length) {y : X} {s : Int} (hy : m.getD k (0, 0) = y) (hs : l.getD k 0 = s) : At x v u s y := by
  obtain ⟨e1, e2, e3, e4, e5⟩ := h.each k hk
  rw [hy] at e1 e2 e3 e4
  rw [hs] at e1 e2 e4 e5
  have hm : y ∈ m := by rw [← hy, getD_lt hk]; exact List.getElem_mem hk
  have hi := h.ok y hm
  obtain ⟨i1, i2, i3, i4⟩ := in_iff.1 hi
  have o1 := ok_iff.1 i1
  have o2 := ok_iff.1 i2
  have hu := h.more (by intro e; rw [e] at hm; simp at hm)
  exact ⟨hi, e1, by rw [Int.tmod_eq_emod_of_nonneg o1.1]; exact e2, e3, e4, e5, by omega, o1.1, by omega, o2.1, by omega, by omega, by omega, i3⟩
set_option maxRecDepth 100000 in
set_option maxHeartbeats 8000000 in
theorem apartl_long (x : X) (v : Int) (a0 : Option Addr) (n0 c0 : Nat) (w : World) (h0 : n0 ≤ 9223372036854775807) (h : ¬ n0 ≤ 60) :
    Calls Try.prog 5 #[(.agg #[.int .i64 x.1, .int .i64 x.2]), .int .i64 v, .slice a0 n0 c0] w fun e w' => e = .returned (.bool true) ∧ Below w.heap.size w w' := by
  go_enter Try.func5, Try.ntmps5
  go_wp2_with (go_at_call 20; refine (live_any _).mono ?_; rintro e w9 ⟨rfl, b9⟩)
  go_ret
  exact ⟨rfl, q_trans (alloc_below _ _) b9⟩
set_option maxRecDepth 100000 in
set_option maxHeartbeats 8000000 in
theorem apartl_short (x : X) (v : Int) (a0 : Option Addr) (n0 c0 : Nat) (l : List Int) (w : World) (h0 : n0 ≤ 60) (H0 : Hid (Has w a0 n0 c0 l)) :
    Calls Try.prog 5 #[(.agg #[.int .i64 x.1, .int .i64 x.2]), .int .i64 v, .slice a0 n0 c0] w fun e w' => e = .returned (.bool true) ∧ Below w.heap.size w w' := by
  obtain ⟨L, hL⟩ : ∃ L, mnL x v l = L := ⟨_, rfl⟩
  obtain ⟨t, ht⟩ : ∃ t, mnW x v l = t := ⟨_, rfl⟩
  obtain ⟨f, hf⟩ : ∃ f, mnE x v l = f := ⟨_, rfl⟩
  have HM := hid (fun (W : World) (ao : Option Addr) (cap : Nat) (h : Has W ao n0 cap l) => is_many (w := W) (by omega) h hL ht hf)
  by_cases hf0 : f = 0
  · have HLd := hid (laid_run x v l (hf.trans hf0))
    rw [hL, ht] at HLd
    have HA := hid (ap_laid HLd.out)
    have hlen : L.length = n0 := by rw [HLd.out.len, H0.out.len]
    have hmore : 0 < n0 → v < t ∧ t ≤ x.2 := fun h => HLd.out.more (by intro e; rw [e] at hlen; simp at hlen; omega)
    subst hf0
    clear hL ht hf
    rw [hlen] at HM
    have HLn := hid hlen
    clear hlen
    go_enter Try.func5, Try.ntmps5
    go_wp2_with fail
    have X0 := hid (bx_new w x 23)
    have B0 := hid (alloc_below w (.cells #[.int .i64 x.1, .int .i64 x.2] 23))
    refine (HM.out _ _ _ (H0.out.below B0.out)).mono ?_
    rintro e w1 ⟨ao1, cap1, rfl, h1, b1⟩
    have X1 := hid (X0.out.below b1)
    have B1 := hid (q_trans B0.out b1)
    have H1 := hid h1
    clear b1 h1 X0 B0
    go_wp2_with (go_at_call 11; refine (num_any _ _).mono ?_; rintro e w' ⟨rfl, hw⟩; rw [hw]; clear hw w')
    refine (is_apart (by omega) H1.out HA.out).mono ?_
    rintro e w2 ⟨rfl, b2⟩
    have X2 := hid (X1.out.below b2)
    have B2 := hid (q_trans B1.out b2)
    have H2 := hid (H1.out.below b2)
    clear b2 X1 B1 H1
    obtain ⟨p0, p1, -, -⟩ := X2.out
    by_cases hn : 0 < n0
    · obtain ⟨m1, m2⟩ := hmore hn
      have d1 : decide (t ≤ v) = false := by simp; omega
      have d2 : decide (x.2 < t) = false := by simp; omega
      have d3 : decide ((0 : Int) < (n0 : Int)) = true := by simp; omega
      have HD := hid d1
      clear hmore
      go_wp2_with fail
      go_loopw [10] (fun i wr => ∃ k : Nat, k ≤ n0 ∧ i = .int .i64 k ∧ Hid (Below w2.heap.size w2 wr)) (fun i _ => n0 - (intOf i).toNat)
      case atStart => exact ⟨0, Nat.zero_le _, rfl, Below.refl _ _⟩
      case round =>
        obtain ⟨k, hk, rfl, HL⟩ := hrel
        by_cases hlt : k < n0
        · have i1 : (0 : Int) ≤ (k : Int) := by omega
          have i2 : (k : Int) < (n0 : Int) := by omega
          obtain ⟨a, rfl, ca⟩ := atX_of (H2.out.row.below HL.out) k (by have := HLn.out; omega)
          obtain ⟨b, rfl, cb⟩ := ((H0.out.below B2.out).below HL.out).cell k hlt
          obtain ⟨y, hy⟩ : ∃ y, L.getD k (0, 0) = y := ⟨_, rfl⟩
          obtain ⟨s, hs⟩ : ∃ s, l.getD k 0 = s := ⟨_, rfl⟩
          have HAt := hid (laid_at HLd.out (by have := HLn.out; omega) hy hs)
          rw [hy] at ca
          rw [hs] at cb
          clear hy hs
          have cx := (X2.out.below HL.out).atX
          obtain ⟨f0, f1⟩ := ca.always
          obtain ⟨f2, f3⟩ := cx.always
          have f4 : ∀ g : Later wr, g.now.cell? (b.add k) = some (.int .i64 s) := fun g => g.cell cb
          have hne : Nonempty (Later wr) := ⟨⟨wr, Below.refl _ _⟩⟩
          have HI := hid (fun W : World => is_inside (w := W) HAt.out.i)
          have z1 : (y.2 != s) = false := by simp [HAt.out.sz]
          have z2 := HAt.out.md
          have z3 : decide (y.1 - x.1 < v) = false := by have := HAt.out.lo; simp; omega
          have z4 : decide (t - s < y.1 - x.1) = false := by have := HAt.out.hi; simp; omega
          have z5 : IntKind.i64.wrap (y.1 - x.1) = y.1 - x.1 := by have := HAt.out; have := this.y1; have := HAt.out.y2; have := HAt.out.x1; have := HAt.out.x2; rw [IntKind.wrap_i64]; omega
          have z6 : IntKind.i64.wrap (t - s) = t - s := by have := HAt.out.s1; have := HAt.out.s2; have := HAt.out.u1; have := HAt.out.u2; rw [IntKind.wrap_i64]; omega
          have z7 : 1 ≤ s := HAt.out.s1
          have z8 := HAt.out.y1
          have z9 := HAt.out.y2
          clear ca cb cx p0 p1
          go_wp2_with fail
          refine wp_region_later (by kernel_rfl) (by kernel_rfl) ?_
          repeat (go_big_quiet_step (first | (go_at_call 16; exact later_call (HI.out _))))
          refine wpQuiet_nil ?_
          rintro w9 ⟨⟨_, b9⟩, rfl⟩
          have HBE := hid (q_trans HL.out b9)
          clear f0 f1 f2 f3 f4 hne b9 HI
          go_wp2_with fail
          go_roundw
          case rel => exact ⟨k + 1, by omega, by go_num, HBE⟩
          case measure => simp [intOf]; omega
        · clear p0 p1
          go_wp2_with (go_at_call 20; refine (live_any _).mono ?_; rintro e w9 ⟨rfl, b9⟩)
          go_ret
          exact ⟨rfl, q_trans (B2.out.trans (HL.out.mono B2.out.size)) b9⟩
    · have d3 : decide ((0 : Int) < (n0 : Int)) = false := by simp; omega
      have d4 : decide (0 < n0) = false := by simp; omega
      have hn2 : ¬ (0 : Int) < (n0 : Int) := by omega
      clear hmore
      go_wp2_with fail
      go_loopw [10] (fun i wr => i = .int .i64 0 ∧ Hid (wr = w2)) (fun _ _ => 0)
      case atStart => exact ⟨rfl, rfl⟩
      case round =>
        obtain ⟨rfl, HL⟩ := hrel
        clear p0 p1
        go_wp2_with (go_at_call 20; refine (live_any _).mono ?_; rintro e w9 ⟨rfl, b9⟩)
        go_ret
        rw [HL.out] at b9
        exact ⟨rfl, q_trans B2.out b9⟩
  · have HN := hid (mn_no (x := x) (w := v) (l := l) (by rw [hf]; exact hf0))
    rw [hL, ht] at HN
    obtain ⟨e1, e2⟩ := HN.out
    subst e1 e2
    have hb : (f != 0) = true := by simp [hf0]
    clear hL ht hf hf0 HN
    go_enter Try.func5, Try.ntmps5
    go_wp2_with fail
    have B0 := hid (alloc_below w (.cells #[.int .i64 x.1, .int .i64 x.2] 23))
    refine (HM.out _ _ _ (H0.out.below B0.out)).mono ?_
    rintro e w1 ⟨ao1, cap1, rfl, h1, b1⟩
    have B1 := hid (q_trans B0.out b1)
    clear b1 h1 B0
    go_wp2_with (first | (go_at_call 11; refine (num_any _ _).mono ?_; rintro e w' ⟨rfl, hw⟩; rw [hw]; clear hw w') | (go_at_call 20; refine (live_any _).mono ?_; rintro e w9 ⟨rfl, b9⟩))
    go_ret
    exact ⟨rfl, q_trans B1.out b9⟩
/-- CarveApart ANSWERS true. -/
theorem apartl_any (x : X) (v : Int) (a0 : Option Addr) (l : List Int) (n0 c0 : Nat) (w : World) (hn0 : n0 ≤ 9223372036854775807) (H0 : Has w a0 n0 c0 l) :
    Calls Try.prog 5 #[(.agg #[.int .i64 x.1, .int .i64 x.2]), .int .i64 v, .slice a0 n0 c0] w fun e w' => e = .returned (.bool true) ∧ Below w.heap.size w w' := by
  by_cases h : n0 ≤ 60
  · exact apartl_short x v a0 n0 c0 l w h H0
  · exact apartl_long x v a0 n0 c0 w hn0 h
end Go.Proofs.Yteohoipkdjhllaa.Ca
