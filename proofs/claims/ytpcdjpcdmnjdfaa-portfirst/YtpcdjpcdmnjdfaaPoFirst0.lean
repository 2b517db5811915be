/- What PortFirst knows. Without any program. -/
import Derived.Test.YtpcdjpcdmnjdfaaPoFact
namespace Go.Proofs.Ytpcdjpcdmnjdfaa.Po

/-- What comes of one who comes, to a port that may be and has no word. -/
structure Ff (p d : Pt) (v : Wt) (ok : Bool) (er own meets : Int) (x : Wt) : Prop where
  no : er ≠ 0 → d = p
  meet : er = 0 → ok = true → 0 < p.l.length ∧ p.k = meets ∧ p.l.getD 0 z0 = v ∧ d.l = p.l.drop 1 ∧ (p.l.length = 1 → d.k = 0) ∧ (p.l.length ≠ 1 → d.k = p.k) ∧ okP d = true ∧ d.w = 0
  wait : er = 0 → ok = false → (0 < p.l.length → p.k = own) ∧ d.l = p.l ++ [x] ∧ d.k = own ∧ okP d = true ∧ d.w = 0
theorem first_fact {p d : Pt} {v x : Wt} {ok : Bool} {er own meets : Int} (hk : okP p = true) (hw : p.w = 0) (h1 : cmP p x own meets = d) (h2 : cmX p x meets = v) (h3 : cmB p x meets = ok) (h4 : rfE p x.c = er) (ho : (own = 1 ∧ meets = 2) ∨ (own = 2 ∧ meets = 1)) : Ff p d v ok er own meets x := by
  subst h1 h2 h3 h4
  refine ⟨fun h => (cm_no h).1, fun h e => ?_, fun h e => ?_⟩
  · by_cases hm : p.k = meets
    · have f := cm_meet (own := own) h hm
      have hl := ok_some hk (by rw [hm]; omega)
      rw [f.1, f.2.1]
      refine ⟨hl, hm, rfl, ?_, fun g => ?_, fun g => ?_, ok_wo hk 0 hl, ?_⟩
      · show p.l.eraseIdx 0 = p.l.drop 1
        cases p.l with
        | nil => rfl
        | cons a r => rfl
      · rw [wo_zero (by rw [List.length_eraseIdx_of_lt hl]; omega)]
      · rw [wo_some (by rw [List.length_eraseIdx_of_lt hl]; omega)]
      · show p.w = 0
        exact hw
    · have f := cm_wait (own := own) h hm
      rw [f.2.2] at e
      cases e
  · by_cases hm : p.k = meets
    · have f := cm_meet (own := own) h hm
      rw [f.2.2] at e
      cases e
    · have f := cm_wait (own := own) h hm
      obtain ⟨_, hc, hf⟩ := rf_zero h
      rw [f.1]
      refine ⟨fun hl => ?_, rfl, rfl, ok_wi hk hc hf hw (by omega), hw⟩
      rcases ftB_iff.1 (okP_iff.1 hk).1 with ⟨_, e0⟩ | ⟨e0, _, _⟩
      · omega
      · omega
end Go.Proofs.Ytpcdjpcdmnjdfaa.Po
