/- PortFirst: of those who send, and who receive, the first one is met first. -/
import Derived.Test.YtpcdjpcdmnjdfaaPoLv
import Derived.Test.YtpcdjpcdmnjdfaaPoFirst0
namespace Go.Proofs.Ytpcdjpcdmnjdfaa.Po
open Go.RowKit

theorem own_lt' {w : World} {B : Nat} {V : Hd} {l : List Wt} (h : MineQ w B V l) : Value.ownBlock (.slice V.o V.n V.c) = none ∨ ∃ i, Value.ownBlock (.slice V.o V.n V.c) = some i ∧ i < w.heap.size := by
  cases e : Value.ownBlock (.slice V.o V.n V.c) with
  | none => exact .inl rfl
  | some i => exact .inr ⟨i, rfl, (World.ownsRow.lt h.2 i e).2⟩
/-- The port's box, its list, and those who wait, apart from it. -/
structure Fs (w wr : World) (p : Pt) (y V : Hd) (l : List Wt) : Prop where
  sp : Hp wr w.heap.size p y
  mv : MineQ wr (w.heap.size + 1) V l
  of : Off (fun i => Value.ownBlock (.slice V.o V.n V.c) = some i) y.o (wts p.l)
  low : Below w.heap.size w wr
theorem Fs.below {w wr w' : World} {p : Pt} {y V : Hd} {l : List Wt} (h : Fs w wr p y V l) (b : Below wr.heap.size wr w') : Fs w w' p y V l := ⟨h.sp.below b, h.mv.below b, h.of, q_trans h.low b⟩
theorem Fs.own_lt {w wr : World} {p : Pt} {y V : Hd} {l : List Wt} (h : Fs w wr p y V l) : Value.ownBlock (.slice V.o V.n V.c) = none ∨ ∃ i, Value.ownBlock (.slice V.o V.n V.c) = some i ∧ i < wr.heap.size := own_lt' h.mv
theorem Fs.put {w wr : World} {p d : Pt} {y V u : Hd} {l : List Wt} {N : Nat} (h : Fs w wr p y V l) (hu : HasQ wr u d.l) (hn : Off (fun i => i < N) u.o (wts d.l)) (hv : Value.ownBlock (.slice V.o V.n V.c) = none ∨ ∃ i, Value.ownBlock (.slice V.o V.n V.c) = some i ∧ i < N) : Fs w (put3 wr w.heap.size d u) d u V l := by
  refine ⟨hp_put h.sp.pb hu, ⟨h.mv.1, own_kept h.mv.2 (kept_put3 wr w.heap.size d u) (fun i e s => ?_)⟩, fun h0 a e s => ?_, put3_low h.low (Nat.le_refl _)⟩
  · have := (World.ownsRow.lt h.mv.2 i e).1
    have s : i = w.heap.size := s
    omega
  · rcases hv with hv | ⟨i, hv, hi⟩
    · have s : Value.ownBlock (.slice V.o V.n V.c) = some a.block := s
      rw [hv] at s
      cases s
    · have s : Value.ownBlock (.slice V.o V.n V.c) = some a.block := s
      rw [hv] at s
      cases s
      exact hn h0 a e hi
theorem Fs.fresh {w W w6 : World} {d : Pt} {u V V' : Hd} {l l' : List Wt} (h : Fs w W d u V l) (b : Below W.heap.size W w6) (hm : MineQ w6 W.heap.size V' l') : Fs w w6 d u V' l' := by
  have h2 := h.below b
  have hl := h.sp.pb.lt
  refine ⟨h2.sp, hm.base (by omega), fun h0 a e s => ?_, h2.low⟩
  have s : Value.ownBlock (.slice V'.o V'.n V'.c) = some a.block := s
  have g1 := (World.ownsRow.lt hm.2 _ s).1
  obtain ⟨a', e', g2⟩ := h.sp.has.row.lt h0
  rw [e] at e'
  cases e'
  omega
theorem Fs.grow {w W w6 : World} {d : Pt} {u V : Hd} {l l' : List Wt} {o : Obj} {g n c : Nat} (h : Fs w W d u V l) (own : w6.ownsRow (w.heap.size + 1) 28 8 (.slice (some ⟨g, 0, none⟩) n c) n (wts l')) (hl : n = l'.length) (gr : (W.alloc o).grownBy w6 (Value.ownBlock (.slice V.o V.n V.c))) (at6 : Value.ownBlock (.slice V.o V.n V.c) = some g ∨ g = (W.alloc o).heap.size) : Fs w w6 d u ⟨some ⟨g, 0, none⟩, n, c⟩ l' := by
  have h2 := h.below (alloc_below W o)
  have k := kept_grown gr
  have hs : ¬ some w.heap.size = Value.ownBlock (.slice V.o V.n V.c) := fun e => by
    have := (World.ownsRow.lt h.mv.2 _ e.symm).1
    omega
  have hlt := h.sp.pb.lt
  refine ⟨⟨h2.sp.pb.kept k hs, h2.sp.has.kept k (fun h0 a e s => h.of h0 a e s.symm)⟩, ⟨hl, own⟩, fun h0 a e s => ?_, ?_⟩
  · have s : some g = some a.block := s
    cases s
    rcases at6 with e6 | e6
    · exact h.of h0 a e e6
    · obtain ⟨a', e', g2⟩ := h.sp.has.row.lt h0
      rw [e] at e'
      cases e'
      simp at e6
      omega
  · exact h2.low.grown gr h2.low.size (fun i e => by have := (World.ownsRow.lt h.mv.2 i e).1; omega)
theorem list_ws (w : World) {ops : Array Oper} {rest : List Oper} {o : Oper} {a : Act} {Q : Exit → Act → World → Prop} (hgd : o.guard = none) (s x : Operand)
    (ho : o.op = .call { callee := .builtin .append, args := #[s, x], argTypes := #[22, 22] })
    (base : Nat) (v : Value) (n : Nat) (xs : List Wt) (hs : a.eval s = v) (hown : w.ownsRow base 28 8 v n (wts xs))
    (ad : Addr) (k : Wt) (hx : a.eval x = .slice (some ad) 1 1) (hy : Row w (some ad) (wts [k])) (h63 : n ≤ 5000) (hbase : base ≤ w.heap.size)
    (h : ∀ g cap w', w'.ownsRow base 28 8 (.slice (some ⟨g, 0, none⟩) (n + 1) cap) (n + 1) (wts (xs ++ [k])) → w.grownBy w' v.ownBlock → (v.ownBlock = some g ∨ g = w.heap.size) → wpList Try.prog ops Q rest (a.put o.dst (.slice (some ⟨g, 0, none⟩) (n + 1) cap)) w') : wpList Try.prog ops Q (o :: rest) a w := by
  obtain ⟨i0, hi, hz0, hz1, hz2⟩ := info_of infoW
  rw [wts_app] at h
  refine wpList_append_lies w hgd s x 22 ho base 28 i0 _ 8 64 Try.underlying22 hi hz0 hz1 hz2 rfl (by decide) v n (wts xs) hs hown ad 1 1 (wts [k]) hx rfl ?_ (wts_one _) (by decide) (by unfold maxLen; omega) (by omega) hbase _ rfl (fun g cap w' h1 h2 h3 _ => h g cap w' h1 h2 h3)
  intro j u hu
  obtain ⟨a', e, hcell⟩ := hy.cell j u hu
  cases e
  exact hcell
set_option maxRecDepth 100000 in
set_option maxHeartbeats 1000000 in
theorem first_long (K : LiveC) (y : Hd) (w : World) (h : 100 < y.n) :
    Calls Try.prog 5 #[.slice y.o y.n y.c] w fun e w' => e = .returned (.bool true) ∧ Below w.heap.size w w' := by
  have i1 : (y.n : Int) > 100 := by omega
  clear h
  go_enter Try.func5, Try.ntmps5
  go_wp2_with (go_at_call 9; refine (K _).mono ?_; rintro e w2 ⟨rfl, b⟩)
  go_ret
  exact ⟨rfl, b⟩
set_option maxRecDepth 100000 in
set_option maxHeartbeats 20000000 in
theorem first_in (K : LiveC) (Ao : Option Addr) (N Cap : Nat) (l : List Ac) (w : World) (h : N ≤ 100) (HH : Hid (HasZ w ⟨Ao, N, Cap⟩ l)) :
    Calls Try.prog 5 #[.slice Ao N Cap] w fun e w' => e = .returned (.bool true) ∧ Below w.heap.size w w' := by
  have i0 : ¬ (N : Int) > 100 := by omega
  go_enter Try.func5, Try.ntmps5
  go_upto_region 4 with fail
  have HR : Hid (Fs w (w.alloc (.cells #[.int .i64 0, .int .i64 0, .slice none 0 0] 24)) p0 nilH nilH []) := ⟨⟨pb_new w p0 nilH, hasQ_nil _⟩, mineQ_nil _ _, fun h0 => by simp [wts] at h0, alloc_below _ _⟩
  generalize w.alloc (.cells #[.int .i64 0, .int .i64 0, .slice none 0 0] 24) = W at HR ⊢
  go_wp2_with fail
  go_loopw [4, 5, 6] (fun s4 s5 s6 wr => ∃ (j : Nat) (st : Pt) (y : Hd) (ao : Option Addr) (m cap : Nat) (kk : Int), j ≤ N ∧ s6 = .int .i64 j ∧ s4 = .slice ao m cap ∧ s5 = .int .i64 kk ∧ Hid (Fs w wr st y ⟨ao, m, cap⟩ st.l) ∧ Hid (okP st = true ∧ st.w = 0 ∧ st.k = kk)) (fun _ _ i _ => N - (intOf i).toNat)
  case atStart => exact ⟨0, p0, nilH, none, 0, 0, 0, Nat.zero_le _, rfl, rfl, rfl, HR, rfl, rfl, rfl⟩
  case round =>
    clear HR
    obtain ⟨W0, rfl⟩ : ∃ W0, W0 = wr := ⟨_, rfl⟩
    obtain ⟨j, st, y, ao, m, cap, kk, hj, rfl, rfl, rfl, HG, HK3⟩ := hrel
    have HK := hid HK3.out.1
    have HW0 := hid HK3.out.2.1
    have HKK := hid HK3.out.2.2
    clear HK3
    by_cases hlt : j < N
    · have i1 : (0 : Int) ≤ (j : Int) := by omega
      have i2 : (j : Int) < (N : Int) := by omega
      obtain ⟨la, ea, hza⟩ := HH.out.at j hlt
      obtain rfl : Ao = some la := ea
      obtain ⟨a, ha⟩ : ∃ a, l.getD j a0 = a := ⟨_, rfl⟩
      rw [ha] at hza
      obtain ⟨c8, c0, c1, c2, c3, c4, c5, c6, c7, c9⟩ := hza.below HG.out.low
      clear hza ha
      have hyn : y.n ≤ 4999 := by have h1 := HG.out.sp.has.len; have h2 := ok_few HK.out; omega
      have hm64 : m ≤ 64 := by have h1 : m = st.l.length := HG.out.mv.1; have h2 := ok_few HK.out; omega
      by_cases hk : a.kind = 0
      · skip
        have HE := hid (first_fact (x := a.x) HK.out HW0.out (do_0 (p := st) hk).1.symm (do_0 (p := st) hk).2.1.symm (do_0 (p := st) hk).2.2.1.symm (do_0 (p := st) hk).2.2.2.2.symm (by decide : (1 : Int) = 1 ∧ (2 : Int) = 2 ∨ (1 : Int) = 2 ∧ (2 : Int) = 1))
        have hk0 : (a.kind != 0) = false := by simp [hk]

        have hkA : IntKind.i64.wrap (a.kind + 1) = 1 := by rw [hk]; decide
        have hkB : (a.kind + 1 + 9223372036854775808) % 18446744073709551616 - 9223372036854775808 = 1 := by rw [hk]; decide
        clear hk
        go_upto_region 11 with fail
        have HG2 := hid (HG.out.below (alloc_below W0 (.cells #[.int .i64 a.kind, .int .i64 a.x.c, .int .i64 a.x.v, .int .i64 a.x.b, .bool a.x.h, .int .i64 a.x.o, .int .i64 a.x.s, .int .i64 a.x.g, .bool a.x.t, .int .i64 a.n] 30)))
        have HZ2 := hid (atZ_new W0 a 30)
        have HBa := hid (alloc_below W0 (.cells #[.int .i64 a.kind, .int .i64 a.x.c, .int .i64 a.x.v, .int .i64 a.x.b, .bool a.x.h, .int .i64 a.x.o, .int .i64 a.x.s, .int .i64 a.x.g, .bool a.x.t, .int .i64 a.n] 30))
        clear c8 c0 c1 c2 c3 c4 c5 c6 c7 c9
        generalize hba : W0.heap.size = ba at HZ2 ⊢
        generalize W0.alloc (.cells #[.int .i64 a.kind, .int .i64 a.x.c, .int .i64 a.x.v, .int .i64 a.x.b, .bool a.x.h, .int .i64 a.x.o, .int .i64 a.x.s, .int .i64 a.x.g, .bool a.x.t, .int .i64 a.n] 30) = W2 at HG2 HZ2 HBa ⊢
        have HBA : Hid (w.heap.size < ba) := by have := HG.out.sp.pb.lt; unfold Hid; omega
        clear hba
        have CD := hid (does_any st y a W2 hyn HG2.out.sp.has)
        obtain ⟨d, hd⟩ : ∃ d, doP st a = d := ⟨_, rfl⟩
        obtain ⟨v, hv⟩ : ∃ v, doX st a = v := ⟨_, rfl⟩
        obtain ⟨ok, hok⟩ : ∃ ok, doB st a = ok := ⟨_, rfl⟩
        obtain ⟨n, hn⟩ : ∃ n, doN st a = n := ⟨_, rfl⟩
        obtain ⟨er, her⟩ : ∃ er, doE st a = er := ⟨_, rfl⟩
        rw [hd, hv, hok, hn, her] at CD
        rw [hd, hv, hok, her] at HE
        clear hd hv hok hn her
        have p0 := HG2.out.sp.pb.c0
        have p1 := HG2.out.sp.pb.c1
        have p2 := HG2.out.sp.pb.c2
        obtain ⟨x8, x0, x1, x2, x3, x4, x5, x6, x7, x9⟩ := HZ2.out
        go_wp2_with fail
        refine CD.out.mono ?_
        rintro e w1 ⟨u, rfl, hu⟩
        have bb := q_trans hu.low (q_alloc (alloc_below w1 (.cells #[.int .i64 d.k, .int .i64 d.w, .slice u.o u.n u.c] 24)) (.cells #[.int .i64 v.c, .int .i64 v.v, .int .i64 v.b, .bool v.h, .int .i64 v.o, .int .i64 v.s, .int .i64 v.g, .bool v.t] 28))
        have X1 := hid (two_pw w1 d u v)
        have HU := hid (((hu.has.below (alloc_below w1 (.cells #[.int .i64 d.k, .int .i64 d.w, .slice u.o u.n u.c] 24))).below (alloc_below _ (.cells #[.int .i64 v.c, .int .i64 v.v, .int .i64 v.b, .bool v.h, .int .i64 v.o, .int .i64 v.s, .int .i64 v.g, .bool v.t] 28))))
        have HNw : Hid (Off (fun i => i < W2.heap.size) u.o (wts d.l)) := hu.new
        have HG3 := hid (HG2.out.below bb)
        have HZ3 := hid (HZ2.out.below bb)
        have HW2 : Hid (W2.heap.size ≤ w1.heap.size) := hu.low.size
        clear hu bb CD p0 p1 p2 x0 x1 x2 x3 x4 x5 x6 x7 x8 x9
        go_upto_region 12 with fail
        generalize hb1 : w1.heap.size = b1 at X1 HW2 ⊢
        generalize (w1.alloc (.cells #[.int .i64 d.k, .int .i64 d.w, .slice u.o u.n u.c] 24)).alloc (.cells #[.int .i64 v.c, .int .i64 v.v, .int .i64 v.b, .bool v.h, .int .i64 v.o, .int .i64 v.s, .int .i64 v.g, .bool v.t] 28) = W3 at X1 HU HG3 HZ3 ⊢
        have HB1 : Hid (w.heap.size < b1) := Nat.lt_of_lt_of_le HG2.out.sp.pb.lt HW2.out
        clear hb1 w1
        have p0 := HG3.out.sp.pb.c0
        have p1 := HG3.out.sp.pb.c1
        have p2 := HG3.out.sp.pb.c2
        have f0 := HG3.out.sp.pb.fz 0
        have f1 := HG3.out.sp.pb.fz 1
        have f2 := HG3.out.sp.pb.fz 2
        have x0 := X1.out.1.c0
        have x1 := X1.out.1.c1
        have x2 := X1.out.1.c2
        have hb1 := HB1.out
        go_upto_region 13 with fail
        have HMV : Hid (Value.ownBlock (.slice ao m cap) = none ∨ ∃ i, Value.ownBlock (.slice ao m cap) = some i ∧ i < W2.heap.size) := HG2.out.own_lt
        have HG4 : Hid (Fs w (((W3.setCell ⟨w.heap.size, 0, none⟩ (.int .i64 d.k)).setCell ⟨w.heap.size, 1, none⟩ (.int .i64 d.w)).setCell ⟨w.heap.size, 2, none⟩ (.slice u.o u.n u.c)) d u ⟨ao, m, cap⟩ st.l) := HG3.out.put HU.out HNw.out HMV.out
        have HZ4 : Hid (AtZ (((W3.setCell ⟨w.heap.size, 0, none⟩ (.int .i64 d.k)).setCell ⟨w.heap.size, 1, none⟩ (.int .i64 d.w)).setCell ⟨w.heap.size, 2, none⟩ (.slice u.o u.n u.c)) ⟨ba, 0, none⟩ a) := HZ3.out.kept (kept_put3 W3 w.heap.size d u) (by have := HBA.out; show ¬ ba = w.heap.size; omega)
        have HV4 : Hid (Wb (((W3.setCell ⟨w.heap.size, 0, none⟩ (.int .i64 d.k)).setCell ⟨w.heap.size, 1, none⟩ (.int .i64 d.w)).setCell ⟨w.heap.size, 2, none⟩ (.slice u.o u.n u.c)) (b1 + 1) v) := X1.out.2.kept (kept_put3 W3 w.heap.size d u) (by omega)
        clear p0 p1 p2 f0 f1 f2 x0 x1 x2 hb1 HU HG3 HZ3 X1 HNw HMV HG2
        generalize ((W3.setCell ⟨w.heap.size, 0, none⟩ (.int .i64 d.k)).setCell ⟨w.heap.size, 1, none⟩ (.int .i64 d.w)).setCell ⟨w.heap.size, 2, none⟩ (.slice u.o u.n u.c) = W4 at HG4 HZ4 HV4 ⊢
        clear W3
        by_cases her : er = 0
        · subst her
          cases ok with
          | true =>
            have HT := hid (HE.out.meet rfl rfl)
            have hm0 : 0 < m := by have h1 : m = st.l.length := HG.out.mv.1; have h2 := HT.out.1; omega
            have q1 : ((m : Int) == 0) = false := by simp; omega
            have q2 : (kk == 1) = false := by have := HT.out.2.1; have := HKK.out; simp; omega
            obtain ⟨la0, ea, ha⟩ := HG4.out.mv.has.at 0 hm0
            obtain rfl : ao = some la0 := ea
            rw [Nat.zero_mul, add_zero_addr] at ha
            have hv : st.l.getD 0 z0 = v := HT.out.2.2.1
            rw [hv] at ha
            clear hv
            obtain ⟨a0, a1, a2, a3, a4, a5, a6, a7⟩ := ha
            obtain ⟨v0, v1, v2, v3, v4, v5, v6, v7⟩ := HV4.out.at
            have he := eqw_yes (rfl : v = v)
            have z8 := HZ4.out.k
            have j2 : (0 : Int) < (m : Int) := by omega
            go_upto_region 16 with fail
            go_quiet (fail)
            have HG5 := hid (HG4.out.below (Below.refl _ W4).drew)
            clear a0 a1 a2 a3 a4 a5 a6 a7 v0 v1 v2 v3 v4 v5 v6 v7 z8 HZ4 HV4 he
            go_upto_region 18 with fail
            have HG5' : Hid (Fs w (W4.drewN nq) d u ⟨some la0, m, cap⟩ st.l) := HG4.out.below (q_drewN (Below.refl _ W4) nq)
            clear HG5 HG4
            have HG5 := HG5'
            clear HG5'
            generalize W4.drewN nq = W5 at HG5 ⊢
            obtain ⟨M, hM⟩ : ∃ M, m - 1 = M := ⟨_, rfl⟩
            obtain ⟨ao2, hao2⟩ : ∃ ao2 : Option Addr, (if cap = 1 then some la0 else (some la0 : Option Addr).map (·.add (1 * 8))) = ao2 := ⟨_, rfl⟩
            have e2 : ∀ W, (Instr.slice 22 (.slice (some la0) m cap) (some (.int .i64 (1 : Int))) none none).run Try.prog W = .ok (.slice ao2 M (cap - 1)) W := fun W => by
              have h := run_from (some la0) 1 m cap (by omega) W
              rw [hao2, hM] at h
              exact h
            have HD5 : Hid (HasQ W5 ⟨ao2, M, cap - 1⟩ (st.l.drop 1)) := by
              have h := HG5.out.mv.has.drop 1 (by show 1 ≤ m; omega)
              have h : HasQ W5 ⟨if cap = 1 then some la0 else (some la0 : Option Addr).map (·.add (1 * 8)), m - 1, cap - 1⟩ (st.l.drop 1) := h
              rw [hao2, hM] at h
              exact h
            clear hao2
            have L5 : Hid ((wts (st.l.drop 1)).length = M * 8) := by unfold Hid; rw [len_wts, ← HD5.out.len]
            go_wp2_with (at_builtin; go_loud (refine wpList_append_row _ rfl (.tmp 68) (.tmp 70) 22 28 _ 8 64 rfl Try.underlying22 infoW rfl (by decide) (by decide) W5.heap.size _ 0 [] rfl (own0 W5 28 8) ao2 M (cap - 1) (wts (st.l.drop 1)) rfl L5.out HD5.out.nil (HD5.out.below (alloc_below W5 _)).row (wts_one _) (by omega) (alloc_below W5 _).size ?_; intro ao6 cap6 w6 own6 grow6; rw [Nat.zero_add, List.nil_append] at own6; simp only [Nat.zero_add]; apply Hid.out))
            have b6 := hid (app_below grow6)
            have HG6 : Hid (Fs w w6 d u ⟨ao6, M, cap6⟩ d.l) := by
              have hd : d.l = st.l.drop 1 := HT.out.2.2.2.1
              have hm6 : MineQ w6 W5.heap.size ⟨ao6, M, cap6⟩ d.l := by rw [hd]; exact ⟨HD5.out.len, own6⟩
              exact HG5.out.fresh b6.out hm6
            clear own6 grow6 b6 HD5 L5 e2 HG5
            have HOK := hid HT.out.2.2.2.2.2.2.1
            have HWD := hid HT.out.2.2.2.2.2.2.2
            unfold Hid
            by_cases hm1 : M = 0
            · have q3 : ((M : Int) == 0) = true := by simp; omega
              have HKd : Hid (d.k = 0) := HT.out.2.2.2.2.1 (by have h1 : m = st.l.length := HG.out.mv.1; omega)
              clear hm1
              go_upto_region 25 with fail
              clear q3
              have p0 := HG6.out.sp.pb.c0
              have p1 := HG6.out.sp.pb.c1
              have p2 := HG6.out.sp.pb.c2
              have r1 : (d.k != 0) = false := by have := HKd.out; simp [this]
              have r2 : ((u.n : Int) != (M : Nat)) = false := by have h1 := HG6.out.sp.has.len; have h2 : M = d.l.length := HG6.out.mv.1; simp; omega
              have CC : Hid (Calls Try.prog 14 #[(.agg #[.int .i64 d.k, .int .i64 d.w, .slice u.o u.n u.c])] w6 fun e w' => e = .returned (.int .i64 0) ∧ Below w6.heap.size w6 w') := by
                have h := pcheck_any d u w6 (by have h1 := HG6.out.sp.has.len; have h2 := ok_few HOK.out; omega) HG6.out.sp.has
                rw [ck_yes HOK.out] at h
                exact h
              go_wp2_with fail
              refine CC.out.mono ?_
              rintro e w7 ⟨rfl, b7⟩
              have HG7 := hid (HG6.out.below b7)
              clear b7 CC p0 p1 p2 HG6
              go_wp2_with fail
              refine (num_any 0 w7).mono ?_
              rintro e w8 ⟨rfl, e8⟩
              subst e8
              go_wp2_with fail
              go_roundw
              case rel => exact ⟨j + 1, d, u, ao6, M, cap6, 0, by omega, by go_num, rfl, rfl, HG7, HOK.out, HWD.out, HKd.out⟩
              case measure => simp [intOf]; omega
            · have q3 : ((M : Int) == 0) = false := by simp; omega
              have HKd : Hid (d.k = kk) := (HT.out.2.2.2.2.2.1 (by have h1 : m = st.l.length := HG.out.mv.1; omega)).trans HKK.out
              clear hm1
              go_upto_region 25 with fail
              clear q3
              have p0 := HG6.out.sp.pb.c0
              have p1 := HG6.out.sp.pb.c1
              have p2 := HG6.out.sp.pb.c2
              have r1 : (d.k != kk) = false := by have := HKd.out; simp [this]
              have r2 : ((u.n : Int) != (M : Nat)) = false := by have h1 := HG6.out.sp.has.len; have h2 : M = d.l.length := HG6.out.mv.1; simp; omega
              have CC : Hid (Calls Try.prog 14 #[(.agg #[.int .i64 d.k, .int .i64 d.w, .slice u.o u.n u.c])] w6 fun e w' => e = .returned (.int .i64 0) ∧ Below w6.heap.size w6 w') := by
                have h := pcheck_any d u w6 (by have h1 := HG6.out.sp.has.len; have h2 := ok_few HOK.out; omega) HG6.out.sp.has
                rw [ck_yes HOK.out] at h
                exact h
              go_wp2_with fail
              refine CC.out.mono ?_
              rintro e w7 ⟨rfl, b7⟩
              have HG7 := hid (HG6.out.below b7)
              clear b7 CC p0 p1 p2 HG6
              go_wp2_with fail
              refine (num_any 0 w7).mono ?_
              rintro e w8 ⟨rfl, e8⟩
              subst e8
              go_wp2_with fail
              go_roundw
              case rel => exact ⟨j + 1, d, u, ao6, M, cap6, kk, by omega, by go_num, rfl, rfl, HG7, HOK.out, HWD.out, HKd.out⟩
              case measure => simp [intOf]; omega
          | false =>
            have HT := hid (HE.out.wait rfl rfl)
            by_cases hm0 : 0 < m
            · have j2 : (m : Int) > 0 := by omega
              have q1 : (kk != 1) = false := by have h1 : m = st.l.length := HG.out.mv.1; have h2 := HT.out.1 (by omega); have h3 := HKK.out; simp; omega
              obtain ⟨z8, z0', z1, z2, z3, z4, z5, z6, z7, z9⟩ := HZ4.out
              have HOw : Hid ((W4.alloc (.cells #[.int .i64 a.x.c, .int .i64 a.x.v, .int .i64 a.x.b, .bool a.x.h, .int .i64 a.x.o, .int .i64 a.x.s, .int .i64 a.x.g, .bool a.x.t] 28)).ownsRow (w.heap.size + 1) 28 8 (.slice ao m cap) m (wts st.l)) := (HG4.out.mv.below (alloc_below W4 _)).2
              have HRx := hid (one_wt W4 a.x 28)
              have HSz : Hid (w.heap.size + 1 ≤ (W4.alloc (.cells #[.int .i64 a.x.c, .int .i64 a.x.v, .int .i64 a.x.b, .bool a.x.h, .int .i64 a.x.o, .int .i64 a.x.s, .int .i64 a.x.g, .bool a.x.t] 28)).heap.size) := by have h := HG4.out.sp.pb.lt; unfold Hid; simp; omega
              go_wp2_with (at_builtin; go_loud (refine list_ws _ rfl (.tmp 83) (.tmp 86) rfl (w.heap.size + 1) _ m st.l rfl HOw.out _ a.x rfl HRx.out (by omega) HSz.out ?_; intro g6 cap6 w6 own6 grow6 at6; apply Hid.out))
              have HG6 : Hid (Fs w w6 d u ⟨some ⟨g6, 0, none⟩, m + 1, cap6⟩ d.l) := by
                have hd : d.l = st.l ++ [a.x] := HT.out.2.1
                have h := HG4.out.grow (l' := st.l ++ [a.x]) own6 (by have h1 : m = st.l.length := HG.out.mv.1; simp; omega) grow6 at6
                rw [← hd] at h
                exact h
              clear own6 grow6 at6 HOw HRx HSz HG4 z8 z0' z1 z2 z3 z4 z5 z6 z7 z9 HZ4 HV4
              generalize m + 1 = M at HG6 ⊢
              have HKd : Hid (d.k = 1) := HT.out.2.2.1
              have HOK := hid HT.out.2.2.2.1
              have HWD := hid HT.out.2.2.2.2
              unfold Hid
              have p0 := HG6.out.sp.pb.c0
              have p1 := HG6.out.sp.pb.c1
              have p2 := HG6.out.sp.pb.c2
              have r1 : (d.k != 1) = false := by have := HKd.out; simp [this]
              have r2 : ((u.n : Int) != (M : Nat)) = false := by have h1 := HG6.out.sp.has.len; have h2 : M = d.l.length := HG6.out.mv.1; simp; omega
              have CC : Hid (Calls Try.prog 14 #[(.agg #[.int .i64 d.k, .int .i64 d.w, .slice u.o u.n u.c])] w6 fun e w' => e = .returned (.int .i64 0) ∧ Below w6.heap.size w6 w') := by
                have h := pcheck_any d u w6 (by have h1 := HG6.out.sp.has.len; have h2 := ok_few HOK.out; omega) HG6.out.sp.has
                rw [ck_yes HOK.out] at h
                exact h
              go_wp2_with fail
              refine CC.out.mono ?_
              rintro e w7 ⟨rfl, b7⟩
              have HG7 := hid (HG6.out.below b7)
              clear b7 CC p0 p1 p2 HG6
              go_wp2_with fail
              refine (num_any 0 w7).mono ?_
              rintro e w8 ⟨rfl, e8⟩
              subst e8
              go_wp2_with fail
              go_roundw
              case rel => exact ⟨j + 1, d, u, some ⟨g6, 0, none⟩, M, cap6, 1, by omega, by go_num, rfl, rfl, HG7, HOK.out, HWD.out, HKd.out⟩
              case measure => simp [intOf]; omega
            · have j2 : ¬ (m : Int) > 0 := by omega
              obtain ⟨z8, z0', z1, z2, z3, z4, z5, z6, z7, z9⟩ := HZ4.out
              have HOw : Hid ((W4.alloc (.cells #[.int .i64 a.x.c, .int .i64 a.x.v, .int .i64 a.x.b, .bool a.x.h, .int .i64 a.x.o, .int .i64 a.x.s, .int .i64 a.x.g, .bool a.x.t] 28)).ownsRow (w.heap.size + 1) 28 8 (.slice ao m cap) m (wts st.l)) := (HG4.out.mv.below (alloc_below W4 _)).2
              have HRx := hid (one_wt W4 a.x 28)
              have HSz : Hid (w.heap.size + 1 ≤ (W4.alloc (.cells #[.int .i64 a.x.c, .int .i64 a.x.v, .int .i64 a.x.b, .bool a.x.h, .int .i64 a.x.o, .int .i64 a.x.s, .int .i64 a.x.g, .bool a.x.t] 28)).heap.size) := by have h := HG4.out.sp.pb.lt; unfold Hid; simp; omega
              go_wp2_with (at_builtin; go_loud (refine list_ws _ rfl (.tmp 83) (.tmp 86) rfl (w.heap.size + 1) _ m st.l rfl HOw.out _ a.x rfl HRx.out (by omega) HSz.out ?_; intro g6 cap6 w6 own6 grow6 at6; apply Hid.out))
              have HG6 : Hid (Fs w w6 d u ⟨some ⟨g6, 0, none⟩, m + 1, cap6⟩ d.l) := by
                have hd : d.l = st.l ++ [a.x] := HT.out.2.1
                have h := HG4.out.grow (l' := st.l ++ [a.x]) own6 (by have h1 : m = st.l.length := HG.out.mv.1; simp; omega) grow6 at6
                rw [← hd] at h
                exact h
              clear own6 grow6 at6 HOw HRx HSz HG4 z8 z0' z1 z2 z3 z4 z5 z6 z7 z9 HZ4 HV4
              generalize m + 1 = M at HG6 ⊢
              have HKd : Hid (d.k = 1) := HT.out.2.2.1
              have HOK := hid HT.out.2.2.2.1
              have HWD := hid HT.out.2.2.2.2
              unfold Hid
              have p0 := HG6.out.sp.pb.c0
              have p1 := HG6.out.sp.pb.c1
              have p2 := HG6.out.sp.pb.c2
              have r1 : (d.k != 1) = false := by have := HKd.out; simp [this]
              have r2 : ((u.n : Int) != (M : Nat)) = false := by have h1 := HG6.out.sp.has.len; have h2 : M = d.l.length := HG6.out.mv.1; simp; omega
              have CC : Hid (Calls Try.prog 14 #[(.agg #[.int .i64 d.k, .int .i64 d.w, .slice u.o u.n u.c])] w6 fun e w' => e = .returned (.int .i64 0) ∧ Below w6.heap.size w6 w') := by
                have h := pcheck_any d u w6 (by have h1 := HG6.out.sp.has.len; have h2 := ok_few HOK.out; omega) HG6.out.sp.has
                rw [ck_yes HOK.out] at h
                exact h
              go_wp2_with fail
              refine CC.out.mono ?_
              rintro e w7 ⟨rfl, b7⟩
              have HG7 := hid (HG6.out.below b7)
              clear b7 CC p0 p1 p2 HG6
              go_wp2_with fail
              refine (num_any 0 w7).mono ?_
              rintro e w8 ⟨rfl, e8⟩
              subst e8
              go_wp2_with fail
              go_roundw
              case rel => exact ⟨j + 1, d, u, some ⟨g6, 0, none⟩, M, cap6, 1, by omega, by go_num, rfl, rfl, HG7, HOK.out, HWD.out, HKd.out⟩
              case measure => simp [intOf]; omega
        · have hr1 : (er != 0) = true := by simp [her]
          have HD := hid (HE.out.no her)
          clear her
          go_wp2_with fail
          go_roundw
          case rel =>
            have hds : d = st := HD.out
            subst hds
            exact ⟨j + 1, d, u, ao, m, cap, kk, by omega, by go_num, rfl, rfl, HG4, HK.out, HW0.out, HKK.out⟩
          case measure => simp [intOf]; omega

      · by_cases hk1 : a.kind = 1
        · clear hk
          have hk := hk1
          clear hk1
          have HE := hid (first_fact (x := a.x) HK.out HW0.out (do_1 (p := st) hk).1.symm (do_1 (p := st) hk).2.1.symm (do_1 (p := st) hk).2.2.1.symm (do_1 (p := st) hk).2.2.2.2.symm (by decide : (2 : Int) = 1 ∧ (1 : Int) = 2 ∨ (2 : Int) = 2 ∧ (1 : Int) = 1))
          have hk0 : (a.kind != 0) = true := by simp [hk]
          have hk1 : (a.kind != 1) = false := by simp [hk]
          have hkA : IntKind.i64.wrap (a.kind + 1) = 2 := by rw [hk]; decide
          have hkB : (a.kind + 1 + 9223372036854775808) % 18446744073709551616 - 9223372036854775808 = 2 := by rw [hk]; decide
          clear hk
          go_upto_region 11 with fail
          have HG2 := hid (HG.out.below (alloc_below W0 (.cells #[.int .i64 a.kind, .int .i64 a.x.c, .int .i64 a.x.v, .int .i64 a.x.b, .bool a.x.h, .int .i64 a.x.o, .int .i64 a.x.s, .int .i64 a.x.g, .bool a.x.t, .int .i64 a.n] 30)))
          have HZ2 := hid (atZ_new W0 a 30)
          have HBa := hid (alloc_below W0 (.cells #[.int .i64 a.kind, .int .i64 a.x.c, .int .i64 a.x.v, .int .i64 a.x.b, .bool a.x.h, .int .i64 a.x.o, .int .i64 a.x.s, .int .i64 a.x.g, .bool a.x.t, .int .i64 a.n] 30))
          clear c8 c0 c1 c2 c3 c4 c5 c6 c7 c9
          generalize hba : W0.heap.size = ba at HZ2 ⊢
          generalize W0.alloc (.cells #[.int .i64 a.kind, .int .i64 a.x.c, .int .i64 a.x.v, .int .i64 a.x.b, .bool a.x.h, .int .i64 a.x.o, .int .i64 a.x.s, .int .i64 a.x.g, .bool a.x.t, .int .i64 a.n] 30) = W2 at HG2 HZ2 HBa ⊢
          have HBA : Hid (w.heap.size < ba) := by have := HG.out.sp.pb.lt; unfold Hid; omega
          clear hba
          have CD := hid (does_any st y a W2 hyn HG2.out.sp.has)
          obtain ⟨d, hd⟩ : ∃ d, doP st a = d := ⟨_, rfl⟩
          obtain ⟨v, hv⟩ : ∃ v, doX st a = v := ⟨_, rfl⟩
          obtain ⟨ok, hok⟩ : ∃ ok, doB st a = ok := ⟨_, rfl⟩
          obtain ⟨n, hn⟩ : ∃ n, doN st a = n := ⟨_, rfl⟩
          obtain ⟨er, her⟩ : ∃ er, doE st a = er := ⟨_, rfl⟩
          rw [hd, hv, hok, hn, her] at CD
          rw [hd, hv, hok, her] at HE
          clear hd hv hok hn her
          have p0 := HG2.out.sp.pb.c0
          have p1 := HG2.out.sp.pb.c1
          have p2 := HG2.out.sp.pb.c2
          obtain ⟨x8, x0, x1, x2, x3, x4, x5, x6, x7, x9⟩ := HZ2.out
          go_wp2_with fail
          refine CD.out.mono ?_
          rintro e w1 ⟨u, rfl, hu⟩
          have bb := q_trans hu.low (q_alloc (alloc_below w1 (.cells #[.int .i64 d.k, .int .i64 d.w, .slice u.o u.n u.c] 24)) (.cells #[.int .i64 v.c, .int .i64 v.v, .int .i64 v.b, .bool v.h, .int .i64 v.o, .int .i64 v.s, .int .i64 v.g, .bool v.t] 28))
          have X1 := hid (two_pw w1 d u v)
          have HU := hid (((hu.has.below (alloc_below w1 (.cells #[.int .i64 d.k, .int .i64 d.w, .slice u.o u.n u.c] 24))).below (alloc_below _ (.cells #[.int .i64 v.c, .int .i64 v.v, .int .i64 v.b, .bool v.h, .int .i64 v.o, .int .i64 v.s, .int .i64 v.g, .bool v.t] 28))))
          have HNw : Hid (Off (fun i => i < W2.heap.size) u.o (wts d.l)) := hu.new
          have HG3 := hid (HG2.out.below bb)
          have HZ3 := hid (HZ2.out.below bb)
          have HW2 : Hid (W2.heap.size ≤ w1.heap.size) := hu.low.size
          clear hu bb CD p0 p1 p2 x0 x1 x2 x3 x4 x5 x6 x7 x8 x9
          go_upto_region 12 with fail
          generalize hb1 : w1.heap.size = b1 at X1 HW2 ⊢
          generalize (w1.alloc (.cells #[.int .i64 d.k, .int .i64 d.w, .slice u.o u.n u.c] 24)).alloc (.cells #[.int .i64 v.c, .int .i64 v.v, .int .i64 v.b, .bool v.h, .int .i64 v.o, .int .i64 v.s, .int .i64 v.g, .bool v.t] 28) = W3 at X1 HU HG3 HZ3 ⊢
          have HB1 : Hid (w.heap.size < b1) := Nat.lt_of_lt_of_le HG2.out.sp.pb.lt HW2.out
          clear hb1 w1
          have p0 := HG3.out.sp.pb.c0
          have p1 := HG3.out.sp.pb.c1
          have p2 := HG3.out.sp.pb.c2
          have f0 := HG3.out.sp.pb.fz 0
          have f1 := HG3.out.sp.pb.fz 1
          have f2 := HG3.out.sp.pb.fz 2
          have x0 := X1.out.1.c0
          have x1 := X1.out.1.c1
          have x2 := X1.out.1.c2
          have hb1 := HB1.out
          go_upto_region 13 with fail
          have HMV : Hid (Value.ownBlock (.slice ao m cap) = none ∨ ∃ i, Value.ownBlock (.slice ao m cap) = some i ∧ i < W2.heap.size) := HG2.out.own_lt
          have HG4 : Hid (Fs w (((W3.setCell ⟨w.heap.size, 0, none⟩ (.int .i64 d.k)).setCell ⟨w.heap.size, 1, none⟩ (.int .i64 d.w)).setCell ⟨w.heap.size, 2, none⟩ (.slice u.o u.n u.c)) d u ⟨ao, m, cap⟩ st.l) := HG3.out.put HU.out HNw.out HMV.out
          have HZ4 : Hid (AtZ (((W3.setCell ⟨w.heap.size, 0, none⟩ (.int .i64 d.k)).setCell ⟨w.heap.size, 1, none⟩ (.int .i64 d.w)).setCell ⟨w.heap.size, 2, none⟩ (.slice u.o u.n u.c)) ⟨ba, 0, none⟩ a) := HZ3.out.kept (kept_put3 W3 w.heap.size d u) (by have := HBA.out; show ¬ ba = w.heap.size; omega)
          have HV4 : Hid (Wb (((W3.setCell ⟨w.heap.size, 0, none⟩ (.int .i64 d.k)).setCell ⟨w.heap.size, 1, none⟩ (.int .i64 d.w)).setCell ⟨w.heap.size, 2, none⟩ (.slice u.o u.n u.c)) (b1 + 1) v) := X1.out.2.kept (kept_put3 W3 w.heap.size d u) (by omega)
          clear p0 p1 p2 f0 f1 f2 x0 x1 x2 hb1 HU HG3 HZ3 X1 HNw HMV HG2
          generalize ((W3.setCell ⟨w.heap.size, 0, none⟩ (.int .i64 d.k)).setCell ⟨w.heap.size, 1, none⟩ (.int .i64 d.w)).setCell ⟨w.heap.size, 2, none⟩ (.slice u.o u.n u.c) = W4 at HG4 HZ4 HV4 ⊢
          clear W3
          by_cases her : er = 0
          · subst her
            cases ok with
            | true =>
              have HT := hid (HE.out.meet rfl rfl)
              have hm0 : 0 < m := by have h1 : m = st.l.length := HG.out.mv.1; have h2 := HT.out.1; omega
              have q1 : ((m : Int) == 0) = false := by simp; omega
              have q2 : (kk == 2) = false := by have := HT.out.2.1; have := HKK.out; simp; omega
              obtain ⟨la0, ea, ha⟩ := HG4.out.mv.has.at 0 hm0
              obtain rfl : ao = some la0 := ea
              rw [Nat.zero_mul, add_zero_addr] at ha
              have hv : st.l.getD 0 z0 = v := HT.out.2.2.1
              rw [hv] at ha
              clear hv
              obtain ⟨a0, a1, a2, a3, a4, a5, a6, a7⟩ := ha
              obtain ⟨v0, v1, v2, v3, v4, v5, v6, v7⟩ := HV4.out.at
              have he := eqw_yes (rfl : v = v)
              have z8 := HZ4.out.k
              have j2 : (0 : Int) < (m : Int) := by omega
              go_upto_region 16 with fail
              go_quiet (fail)
              have HG5 := hid (HG4.out.below (Below.refl _ W4).drew)
              clear a0 a1 a2 a3 a4 a5 a6 a7 v0 v1 v2 v3 v4 v5 v6 v7 z8 HZ4 HV4 he
              go_upto_region 18 with fail
              have HG5' : Hid (Fs w (W4.drewN nq) d u ⟨some la0, m, cap⟩ st.l) := HG4.out.below (q_drewN (Below.refl _ W4) nq)
              clear HG5 HG4
              have HG5 := HG5'
              clear HG5'
              generalize W4.drewN nq = W5 at HG5 ⊢
              obtain ⟨M, hM⟩ : ∃ M, m - 1 = M := ⟨_, rfl⟩
              obtain ⟨ao2, hao2⟩ : ∃ ao2 : Option Addr, (if cap = 1 then some la0 else (some la0 : Option Addr).map (·.add (1 * 8))) = ao2 := ⟨_, rfl⟩
              have e2 : ∀ W, (Instr.slice 22 (.slice (some la0) m cap) (some (.int .i64 (1 : Int))) none none).run Try.prog W = .ok (.slice ao2 M (cap - 1)) W := fun W => by
                have h := run_from (some la0) 1 m cap (by omega) W
                rw [hao2, hM] at h
                exact h
              have HD5 : Hid (HasQ W5 ⟨ao2, M, cap - 1⟩ (st.l.drop 1)) := by
                have h := HG5.out.mv.has.drop 1 (by show 1 ≤ m; omega)
                have h : HasQ W5 ⟨if cap = 1 then some la0 else (some la0 : Option Addr).map (·.add (1 * 8)), m - 1, cap - 1⟩ (st.l.drop 1) := h
                rw [hao2, hM] at h
                exact h
              clear hao2
              have L5 : Hid ((wts (st.l.drop 1)).length = M * 8) := by unfold Hid; rw [len_wts, ← HD5.out.len]
              go_wp2_with (at_builtin; go_loud (refine wpList_append_row _ rfl (.tmp 68) (.tmp 70) 22 28 _ 8 64 rfl Try.underlying22 infoW rfl (by decide) (by decide) W5.heap.size _ 0 [] rfl (own0 W5 28 8) ao2 M (cap - 1) (wts (st.l.drop 1)) rfl L5.out HD5.out.nil (HD5.out.below (alloc_below W5 _)).row (wts_one _) (by omega) (alloc_below W5 _).size ?_; intro ao6 cap6 w6 own6 grow6; rw [Nat.zero_add, List.nil_append] at own6; simp only [Nat.zero_add]; apply Hid.out))
              have b6 := hid (app_below grow6)
              have HG6 : Hid (Fs w w6 d u ⟨ao6, M, cap6⟩ d.l) := by
                have hd : d.l = st.l.drop 1 := HT.out.2.2.2.1
                have hm6 : MineQ w6 W5.heap.size ⟨ao6, M, cap6⟩ d.l := by rw [hd]; exact ⟨HD5.out.len, own6⟩
                exact HG5.out.fresh b6.out hm6
              clear own6 grow6 b6 HD5 L5 e2 HG5
              have HOK := hid HT.out.2.2.2.2.2.2.1
              have HWD := hid HT.out.2.2.2.2.2.2.2
              unfold Hid
              by_cases hm1 : M = 0
              · have q3 : ((M : Int) == 0) = true := by simp; omega
                have HKd : Hid (d.k = 0) := HT.out.2.2.2.2.1 (by have h1 : m = st.l.length := HG.out.mv.1; omega)
                clear hm1
                go_upto_region 25 with fail
                clear q3
                have p0 := HG6.out.sp.pb.c0
                have p1 := HG6.out.sp.pb.c1
                have p2 := HG6.out.sp.pb.c2
                have r1 : (d.k != 0) = false := by have := HKd.out; simp [this]
                have r2 : ((u.n : Int) != (M : Nat)) = false := by have h1 := HG6.out.sp.has.len; have h2 : M = d.l.length := HG6.out.mv.1; simp; omega
                have CC : Hid (Calls Try.prog 14 #[(.agg #[.int .i64 d.k, .int .i64 d.w, .slice u.o u.n u.c])] w6 fun e w' => e = .returned (.int .i64 0) ∧ Below w6.heap.size w6 w') := by
                  have h := pcheck_any d u w6 (by have h1 := HG6.out.sp.has.len; have h2 := ok_few HOK.out; omega) HG6.out.sp.has
                  rw [ck_yes HOK.out] at h
                  exact h
                go_wp2_with fail
                refine CC.out.mono ?_
                rintro e w7 ⟨rfl, b7⟩
                have HG7 := hid (HG6.out.below b7)
                clear b7 CC p0 p1 p2 HG6
                go_wp2_with fail
                refine (num_any 0 w7).mono ?_
                rintro e w8 ⟨rfl, e8⟩
                subst e8
                go_wp2_with fail
                go_roundw
                case rel => exact ⟨j + 1, d, u, ao6, M, cap6, 0, by omega, by go_num, rfl, rfl, HG7, HOK.out, HWD.out, HKd.out⟩
                case measure => simp [intOf]; omega
              · have q3 : ((M : Int) == 0) = false := by simp; omega
                have HKd : Hid (d.k = kk) := (HT.out.2.2.2.2.2.1 (by have h1 : m = st.l.length := HG.out.mv.1; omega)).trans HKK.out
                clear hm1
                go_upto_region 25 with fail
                clear q3
                have p0 := HG6.out.sp.pb.c0
                have p1 := HG6.out.sp.pb.c1
                have p2 := HG6.out.sp.pb.c2
                have r1 : (d.k != kk) = false := by have := HKd.out; simp [this]
                have r2 : ((u.n : Int) != (M : Nat)) = false := by have h1 := HG6.out.sp.has.len; have h2 : M = d.l.length := HG6.out.mv.1; simp; omega
                have CC : Hid (Calls Try.prog 14 #[(.agg #[.int .i64 d.k, .int .i64 d.w, .slice u.o u.n u.c])] w6 fun e w' => e = .returned (.int .i64 0) ∧ Below w6.heap.size w6 w') := by
                  have h := pcheck_any d u w6 (by have h1 := HG6.out.sp.has.len; have h2 := ok_few HOK.out; omega) HG6.out.sp.has
                  rw [ck_yes HOK.out] at h
                  exact h
                go_wp2_with fail
                refine CC.out.mono ?_
                rintro e w7 ⟨rfl, b7⟩
                have HG7 := hid (HG6.out.below b7)
                clear b7 CC p0 p1 p2 HG6
                go_wp2_with fail
                refine (num_any 0 w7).mono ?_
                rintro e w8 ⟨rfl, e8⟩
                subst e8
                go_wp2_with fail
                go_roundw
                case rel => exact ⟨j + 1, d, u, ao6, M, cap6, kk, by omega, by go_num, rfl, rfl, HG7, HOK.out, HWD.out, HKd.out⟩
                case measure => simp [intOf]; omega
            | false =>
              have HT := hid (HE.out.wait rfl rfl)
              by_cases hm0 : 0 < m
              · have j2 : (m : Int) > 0 := by omega
                have q1 : (kk != 2) = false := by have h1 : m = st.l.length := HG.out.mv.1; have h2 := HT.out.1 (by omega); have h3 := HKK.out; simp; omega
                obtain ⟨z8, z0', z1, z2, z3, z4, z5, z6, z7, z9⟩ := HZ4.out
                have HOw : Hid ((W4.alloc (.cells #[.int .i64 a.x.c, .int .i64 a.x.v, .int .i64 a.x.b, .bool a.x.h, .int .i64 a.x.o, .int .i64 a.x.s, .int .i64 a.x.g, .bool a.x.t] 28)).ownsRow (w.heap.size + 1) 28 8 (.slice ao m cap) m (wts st.l)) := (HG4.out.mv.below (alloc_below W4 _)).2
                have HRx := hid (one_wt W4 a.x 28)
                have HSz : Hid (w.heap.size + 1 ≤ (W4.alloc (.cells #[.int .i64 a.x.c, .int .i64 a.x.v, .int .i64 a.x.b, .bool a.x.h, .int .i64 a.x.o, .int .i64 a.x.s, .int .i64 a.x.g, .bool a.x.t] 28)).heap.size) := by have h := HG4.out.sp.pb.lt; unfold Hid; simp; omega
                go_wp2_with (at_builtin; go_loud (refine list_ws _ rfl (.tmp 83) (.tmp 86) rfl (w.heap.size + 1) _ m st.l rfl HOw.out _ a.x rfl HRx.out (by omega) HSz.out ?_; intro g6 cap6 w6 own6 grow6 at6; apply Hid.out))
                have HG6 : Hid (Fs w w6 d u ⟨some ⟨g6, 0, none⟩, m + 1, cap6⟩ d.l) := by
                  have hd : d.l = st.l ++ [a.x] := HT.out.2.1
                  have h := HG4.out.grow (l' := st.l ++ [a.x]) own6 (by have h1 : m = st.l.length := HG.out.mv.1; simp; omega) grow6 at6
                  rw [← hd] at h
                  exact h
                clear own6 grow6 at6 HOw HRx HSz HG4 z8 z0' z1 z2 z3 z4 z5 z6 z7 z9 HZ4 HV4
                generalize m + 1 = M at HG6 ⊢
                have HKd : Hid (d.k = 2) := HT.out.2.2.1
                have HOK := hid HT.out.2.2.2.1
                have HWD := hid HT.out.2.2.2.2
                unfold Hid
                have p0 := HG6.out.sp.pb.c0
                have p1 := HG6.out.sp.pb.c1
                have p2 := HG6.out.sp.pb.c2
                have r1 : (d.k != 2) = false := by have := HKd.out; simp [this]
                have r2 : ((u.n : Int) != (M : Nat)) = false := by have h1 := HG6.out.sp.has.len; have h2 : M = d.l.length := HG6.out.mv.1; simp; omega
                have CC : Hid (Calls Try.prog 14 #[(.agg #[.int .i64 d.k, .int .i64 d.w, .slice u.o u.n u.c])] w6 fun e w' => e = .returned (.int .i64 0) ∧ Below w6.heap.size w6 w') := by
                  have h := pcheck_any d u w6 (by have h1 := HG6.out.sp.has.len; have h2 := ok_few HOK.out; omega) HG6.out.sp.has
                  rw [ck_yes HOK.out] at h
                  exact h
                go_wp2_with fail
                refine CC.out.mono ?_
                rintro e w7 ⟨rfl, b7⟩
                have HG7 := hid (HG6.out.below b7)
                clear b7 CC p0 p1 p2 HG6
                go_wp2_with fail
                refine (num_any 0 w7).mono ?_
                rintro e w8 ⟨rfl, e8⟩
                subst e8
                go_wp2_with fail
                go_roundw
                case rel => exact ⟨j + 1, d, u, some ⟨g6, 0, none⟩, M, cap6, 2, by omega, by go_num, rfl, rfl, HG7, HOK.out, HWD.out, HKd.out⟩
                case measure => simp [intOf]; omega
              · have j2 : ¬ (m : Int) > 0 := by omega
                obtain ⟨z8, z0', z1, z2, z3, z4, z5, z6, z7, z9⟩ := HZ4.out
                have HOw : Hid ((W4.alloc (.cells #[.int .i64 a.x.c, .int .i64 a.x.v, .int .i64 a.x.b, .bool a.x.h, .int .i64 a.x.o, .int .i64 a.x.s, .int .i64 a.x.g, .bool a.x.t] 28)).ownsRow (w.heap.size + 1) 28 8 (.slice ao m cap) m (wts st.l)) := (HG4.out.mv.below (alloc_below W4 _)).2
                have HRx := hid (one_wt W4 a.x 28)
                have HSz : Hid (w.heap.size + 1 ≤ (W4.alloc (.cells #[.int .i64 a.x.c, .int .i64 a.x.v, .int .i64 a.x.b, .bool a.x.h, .int .i64 a.x.o, .int .i64 a.x.s, .int .i64 a.x.g, .bool a.x.t] 28)).heap.size) := by have h := HG4.out.sp.pb.lt; unfold Hid; simp; omega
                go_wp2_with (at_builtin; go_loud (refine list_ws _ rfl (.tmp 83) (.tmp 86) rfl (w.heap.size + 1) _ m st.l rfl HOw.out _ a.x rfl HRx.out (by omega) HSz.out ?_; intro g6 cap6 w6 own6 grow6 at6; apply Hid.out))
                have HG6 : Hid (Fs w w6 d u ⟨some ⟨g6, 0, none⟩, m + 1, cap6⟩ d.l) := by
                  have hd : d.l = st.l ++ [a.x] := HT.out.2.1
                  have h := HG4.out.grow (l' := st.l ++ [a.x]) own6 (by have h1 : m = st.l.length := HG.out.mv.1; simp; omega) grow6 at6
                  rw [← hd] at h
                  exact h
                clear own6 grow6 at6 HOw HRx HSz HG4 z8 z0' z1 z2 z3 z4 z5 z6 z7 z9 HZ4 HV4
                generalize m + 1 = M at HG6 ⊢
                have HKd : Hid (d.k = 2) := HT.out.2.2.1
                have HOK := hid HT.out.2.2.2.1
                have HWD := hid HT.out.2.2.2.2
                unfold Hid
                have p0 := HG6.out.sp.pb.c0
                have p1 := HG6.out.sp.pb.c1
                have p2 := HG6.out.sp.pb.c2
                have r1 : (d.k != 2) = false := by have := HKd.out; simp [this]
                have r2 : ((u.n : Int) != (M : Nat)) = false := by have h1 := HG6.out.sp.has.len; have h2 : M = d.l.length := HG6.out.mv.1; simp; omega
                have CC : Hid (Calls Try.prog 14 #[(.agg #[.int .i64 d.k, .int .i64 d.w, .slice u.o u.n u.c])] w6 fun e w' => e = .returned (.int .i64 0) ∧ Below w6.heap.size w6 w') := by
                  have h := pcheck_any d u w6 (by have h1 := HG6.out.sp.has.len; have h2 := ok_few HOK.out; omega) HG6.out.sp.has
                  rw [ck_yes HOK.out] at h
                  exact h
                go_wp2_with fail
                refine CC.out.mono ?_
                rintro e w7 ⟨rfl, b7⟩
                have HG7 := hid (HG6.out.below b7)
                clear b7 CC p0 p1 p2 HG6
                go_wp2_with fail
                refine (num_any 0 w7).mono ?_
                rintro e w8 ⟨rfl, e8⟩
                subst e8
                go_wp2_with fail
                go_roundw
                case rel => exact ⟨j + 1, d, u, some ⟨g6, 0, none⟩, M, cap6, 2, by omega, by go_num, rfl, rfl, HG7, HOK.out, HWD.out, HKd.out⟩
                case measure => simp [intOf]; omega
          · have hr1 : (er != 0) = true := by simp [her]
            have HD := hid (HE.out.no her)
            clear her
            go_wp2_with fail
            go_roundw
            case rel =>
              have hds : d = st := HD.out
              subst hds
              exact ⟨j + 1, d, u, ao, m, cap, kk, by omega, by go_num, rfl, rfl, HG4, HK.out, HW0.out, HKK.out⟩
            case measure => simp [intOf]; omega

        · have e1 : (a.kind != 0) = true := by simp [hk]
          have e2 : (a.kind != 1) = true := by simp [hk1]
          clear hk hk1
          go_wp2_with fail
          go_roundw
          case rel => exact ⟨j + 1, st, y, ao, m, cap, kk, by omega, by go_num, rfl, rfl, HG.out.below (alloc_below W0 (.cells #[.int .i64 a.kind, .int .i64 a.x.c, .int .i64 a.x.v, .int .i64 a.x.b, .bool a.x.h, .int .i64 a.x.o, .int .i64 a.x.s, .int .i64 a.x.g, .bool a.x.t, .int .i64 a.n] 30)), HK.out, HW0.out, HKK.out⟩
          case measure => simp [intOf]; omega
    · have i2 : ¬ (j : Int) < (N : Int) := by omega
      have HB := hid HG.out.low
      go_wp2_with fail
      refine (K _).mono ?_
      rintro e w2 ⟨rfl, b⟩
      replace HB := hid (q_trans HB.out b)
      clear b
      go_wp2_with fail
      go_ret
      exact ⟨rfl, HB.out⟩
theorem first_any (K : LiveC) (y : Hd) (l : List Ac) (w : World) (HH : HasZ w y l) :
    Calls Try.prog 5 #[.slice y.o y.n y.c] w fun e w' => e = .returned (.bool true) ∧ Below w.heap.size w w' := by
  by_cases h : 100 < y.n
  · exact first_long K y w h
  · exact first_in K y.o y.n y.c l w (by omega) HH
end Go.Proofs.Ytpcdjpcdmnjdfaa.Po
