/- What Decode answers. -/
import Derived.Test.YtbapegdmpipllaaHReadL
import Derived.Test.YtbapegdmpipllaaHCheck
namespace Go.Proofs.Ytbapegdmpipllaa
open Go.RowKit
set_option linter.unusedVariables false

/-- what Decode answers: the events, in memory of their own, and why there are none -/
def DeP (l : List Int) (w : World) (e : Ending) (w' : World) : Prop := ∃ v, e = .returned (.tuple #[v, .int .i64 (rdH l).2]) ∧ w'.ownsRow w.heap.size 55 4 v (rdH l).1.length ((rdH l).1.flatMap evC) ∧ Below w.heap.size w w'
set_option maxRecDepth 100000 in
theorem dep_no {l : List Int} {w w' : World} {r : Int} (h : rdH l = ([], r)) (hb : Below w.heap.size w w') : DeP l w (.returned (.tuple #[.slice none 0 0, .int .i64 r])) w' := by
  unfold DeP; rw [h]; exact ⟨_, rfl, World.ownsRow_nil _ _ _ _, hb⟩
set_option maxRecDepth 100000 in
theorem dep_yes {l : List Int} {w w' : World} {D : List Ev} {v : Value} (h : rdH l = (D, 0)) (ho : w'.ownsRow w.heap.size 55 4 v D.length (D.flatMap evC)) (hb : Below w.heap.size w w') : DeP l w (.returned (.tuple #[v, .int .i64 0])) w' := by
  unfold DeP; rw [h]; exact ⟨v, rfl, ho, hb⟩
set_option maxHeartbeats 2000000 in
theorem decode_any (a : Option Addr) (len cap : Nat) (l : List Int) (w : World) (h : Bts w a len cap l) :
    Calls Try.prog 18 #[.slice a len cap] w (DeP l w) := by
  have H := Bx.mk h
  have HLEN : Bx (l.length = len) := ⟨h.len_eq⟩
  have hm := Nat.le_trans h.le_cap h.cap_le
  unfold maxLen at hm
  have HH := Bx.mk (rdH_rdA l)
  clear h
  go_enter Try.func18, Try.ntmps18
  go_wp2_with fail
  refine (revents_any a len cap l _ H.out).mono ?_
  intro e w1 hre
  obtain ⟨hb1, hre⟩ := hre
  have HB1 := Bx.mk hb1
  clear hb1
  rcases hre with ⟨hbad, rfl⟩ | ⟨hok, v1, a1, rfl, ho1, hbt⟩
  · have HF : Bx (rdH l = ([], (rdA l).2.2)) := ⟨by rw [HH.out, if_pos hbad]⟩
    generalize (rdA l).2.2 = r at HF hbad
    have hrq : (r != 0) = true := by simpa using hbad
    clear hbad HH
    go_wp2_with fail
    go_ret2
    exact dep_no HF.out HB1.out
  · rw [hok, if_neg (fun h => h rfl)] at HH
    have HPL : Bx (len - (rdA l).2.1 = 0 ↔ ¬ (rdA l).2.1 < l.length) := ⟨by rw [HLEN.out]; omega⟩
    generalize (rdA l).1 = D at HH ho1
    generalize (rdA l).2.1 = p at HH HPL
    obtain ⟨n1, HN1⟩ : ∃ n1, Bx (len - p = n1) := ⟨_, ⟨rfl⟩⟩
    rw [HN1.out] at HPL ⊢
    obtain ⟨aD, cD, rfl, hED⟩ := Ls.of_owns evC_len ho1 rfl
    have HED := Bx.mk hED
    have HO1 := Bx.mk ho1
    have hn1 : n1 ≤ 9223372036854775807 := by rw [← HN1.out]; omega
    clear hok hbt ho1 hED HN1
    by_cases hrest : p < l.length
    · have HF : Bx (rdH l = ([], 6)) := ⟨by rw [HH.out, if_pos hrest]⟩
      have hpI : (0 : Int) < (n1 : Int) := by
        have : n1 ≠ 0 := fun h => HPL.out.1 h hrest
        omega
      clear hrest HH
      go_wp2_with fail
      go_ret2
      exact dep_no HF.out HB1.out
    · rw [if_neg hrest] at HH
      have hn0 : n1 = 0 := HPL.out.2 hrest
      subst hn0
      clear hrest
      go_wp2_with fail
      refine (check_any aD D.length cD D _ HED.out).mono ?_
      rintro e w2 ⟨rfl, hb2⟩
      have HO2 := Bx.mk (owns_below HO1.out hb2)
      have HB2 := Bx.mk (bstep HB1.out hb2)
      clear hb2
      generalize (chk D).2 = r at HH ⊢
      by_cases hr : r = 0
      · subst hr
        have HF : Bx (rdH l = (D, 0)) := ⟨by rw [HH.out, if_neg (fun h => h rfl)]⟩
        go_wp2_with fail
        go_ret2
        exact dep_yes HF.out HO2.out HB2.out
      · have HF : Bx (rdH l = ([], r)) := ⟨by rw [HH.out, if_pos hr]⟩
        have hrq : (r != 0) = true := by simpa using hr
        clear hr HH
        go_wp2_with fail
        go_ret2
        exact dep_no HF.out HB2.out
end Go.Proofs.Ytbapegdmpipllaa
