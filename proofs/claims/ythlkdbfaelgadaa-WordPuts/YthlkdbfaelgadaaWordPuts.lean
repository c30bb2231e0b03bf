/- For every uint64 x and every int n the law WordPuts returns true (P1.1): Put answers the bytes that the document says, in memory that is nobody else's. No condition. -/
import Derived.Test.YthlkdbfaelgadaaRows
import Derived.Test.YthlkdbfaelgadaaLives
import Derived.Test.YthlkdbfaelgadaaRefPut
import Derived.Test.YthlkdbfaelgadaaSame
import Derived.WalkKit
import Derived.ProofKit
import Derived.OpenShut
import Derived.ShutString
import Derived.ChangeOld
import Derived.Below
namespace Go.Proofs.Ythlkdbfaelgadaa.wordPuts
open Go.ChangeShapes Go.WideShapes Go.ChangeAt Go.RowKit
open Go.ChangeMaps (open_string shut_string)
set_option linter.unusedVariables false

theorem own : ownKnob Try.prog.godebug = none := by kernel_rfl


/-- the row behind k rounds of 'a[i] = a[i] + 1' -/
def incAt (l : List Int) (k : Nat) : List Int := (l.take k).map (fun c => (c + 1) % 256) ++ l.drop k
theorem incAt_zero (l : List Int) : incAt l 0 = l := by simp [incAt]
theorem incAt_length (l : List Int) (k : Nat) (h : k ≤ l.length) : (incAt l k).length = l.length := by simp [incAt]; omega
theorem incAt_getD (l : List Int) (k : Nat) (h : k < l.length) : (bv (incAt l k))[k]? = some (.int .u8 (l.getD k 0)) := by
  simp only [bv, incAt, List.map_append]
  rw [List.getElem?_append_right (by simp; omega)]
  simp [h, Nat.min_eq_left (Nat.le_of_lt h), List.getD_eq_getElem?_getD]
theorem incAt_succ (l : List Int) (k : Nat) (h : k < l.length) : (bv (incAt l k)).set k (.int .u8 ((l.getD k 0 + 1) % 256)) = bv (incAt l (k + 1)) := by
  have e : l.drop k = l.getD k 0 :: l.drop (k + 1) := by rw [List.getD_eq_getElem?_getD, List.getElem?_eq_getElem h]; exact List.drop_eq_getElem_cons h
  simp only [bv, incAt, List.map_append, take_succ_getD l k h, e, List.map_cons]
  rw [List.set_append_right _ _ (by simp; omega)]
  simp [Nat.min_eq_left (Nat.le_of_lt h)]
/-! ### STEP 1: THE WALK: the Go text returns true. 'Below w.heap.size w w'': the world has at most new blocks (Derived/RowKit3.lean). Part the cases AHEAD of 'go_enter' where a test parts the walk; take each callee by a contract of your own. -/
set_option maxHeartbeats 1000000 in
theorem walk (a0 : Int) (a1 : Int) (w0 : (Lit.int .u64 a0).wf = true) (w1 : (Lit.int .i64 a1).wf = true) (w : World) :
    Calls Try.prog 3 #[.int .u64 a0, .int .i64 a1] w fun e w' => e = .returned (.bool true) ∧ Below w.heap.size w w' := by
  have hx : 0 ≤ a0 ∧ a0 ≤ 18446744073709551615 := bounds_u64 w0
  have hn : -9223372036854775808 ≤ a1 ∧ a1 ≤ 9223372036854775807 := bounds_i64 w1
  by_cases hr : 1 ≤ a1 ∧ a1 ≤ 8
  · obtain ⟨n, rfl⟩ : ∃ n : Nat, a1 = n := ⟨a1.toNat, by omega⟩
    have h1 : 1 ≤ n := by omega
    have h8 : n ≤ 8 := by omega
    go_enter Try.func3, Try.ntmps3
    go_wp2_with fail
    refine (put_some a0 n _ h1 h8 hx.1 hx.2).mono ?_
    rintro e w1 ⟨va, rfl, hown1, hb1⟩
    go_wp2_with fail
    refine (put_some a0 n _ h1 h8 hx.1 hx.2).mono ?_
    rintro e w2 ⟨vb, rfl, hown2, hb2⟩
    have hown1b := owns_below hown1 hb2
    go_wp2_with fail
    refine (refput_some a0 n _ h1 h8 hx.1 hx.2).mono ?_
    rintro e w3 ⟨vc, rfl, hown3, hb3⟩
    have hown1c := owns_below hown1b hb3
    have hown2c := owns_below hown2 hb3
    obtain ⟨g, cap, rfl, hg0, hg1⟩ := owns_form hown1 h1
    obtain ⟨g2, cap2, rfl, _, _⟩ := owns_form hown2 h1
    obtain ⟨g3, cap3, rfl, _, _⟩ := owns_form hown3 h1
    have hbb : Below w.heap.size w w3 := (hb1.trans (hb2.mono hb1.size)).trans (hb3.mono (Nat.le_trans hb1.size hb2.size))
    have hz2 := hb2.size
    have hz3 := hb3.size
    have hB := putL_byt a0 n
    have hL : Hid ((putL a0 n).length = n) := putL_length a0 n
    clear hown1 hown1b hown2 hb1 hb2 hb3
    generalize putL a0 n = l at hown1c hown2c hown3 hB hL
    obtain ⟨ao1, c1, e1, B1⟩ := Bts.of_owns hown1c hB
    obtain ⟨ao3, c3, e3, B3⟩ := Bts.of_owns hown3 hB
    cases e1
    cases e3
    go_wp2_with fail
    refine (same_yes _ _ n n _ _ l _ B1 B3).mono ?_
    rintro e w' ⟨rfl, q, rfl⟩
    clear B1 B3
    have o1 := owns_drewN hown1c q
    have o2 := owns_drewN hown2c q
    have o3 := owns_drewN hown3 q
    have hb4 := below_drewN hbb q
    have hsz : w3.heap.size = (w3.drewN q).heap.size := rfl
    clear hown1c hown2c hown3 hbb
    generalize w3.drewN q = w4 at o1 o2 o3 hb4 hsz ⊢
    rw [hsz] at hz3
    clear hsz
    go_wp2
    go_loopw [8] (fun i wr => ∃ k : Nat, k ≤ n ∧ i = .int .i64 k ∧ wr.ownsRow w.heap.size 5 1 (.slice (some ⟨g, 0, none⟩) n cap) n (bv (incAt l k)) ∧ wr.ownsRow w1.heap.size 5 1 (.slice (some ⟨g2, 0, none⟩) n cap2) n (bv l) ∧ wr.ownsRow w2.heap.size 5 1 (.slice (some ⟨g3, 0, none⟩) n cap3) n (bv l) ∧ Below w.heap.size w wr) (fun i _ => n - (intOf i).toNat)
    case atStart => exact ⟨0, Nat.zero_le _, rfl, by rw [incAt_zero]; exact o1, o2, o3, hb4⟩
    case round =>
      obtain ⟨k, hk, rfl, p1, p2, p3, hb5⟩ := hrel
      clear o1 o2 o3 hb4
      by_cases hlt : k < n
      · have hcell := p1.cellAt k (by omega)
        rw [incAt_getD l k (by rw [hL.out]; exact hlt)] at hcell
        have hf := p1.frozenAt k
        have hst := p1.stored k (.int .u8 ((l.getD k 0 + 1) % 256))
        rw [incAt_succ l k (by rw [hL.out]; exact hlt)] at hst
        have q2 := ownsRow_setCell_below p2 (a := ⟨g, k, none⟩) hg1 (.int .u8 ((l.getD k 0 + 1) % 256))
        have q3 := ownsRow_setCell_below p3 (a := ⟨g, k, none⟩) (Nat.lt_of_lt_of_le hg1 hz2) (.int .u8 ((l.getD k 0 + 1) % 256))
        have hb6 := hb5.grown hst.2 hb5.size (by intro j hj; cases hj; exact hg0)
        have hbd := hB.getD k
        generalize l.getD k 0 = C at hcell hst q2 q3 hb6 hbd
        clear p1 p2 p3 hb5
        go_wp2
        go_roundw
        case rel => exact ⟨k + 1, by omega, by go_num, hst.1, q2, q3, hb6⟩
        case measure => simp [intOf]; omega
      · clear p1
        obtain ⟨ao2, c2, e2, B2⟩ := Bts.of_owns p2 hB
        obtain ⟨ao3, c3, e3, B3⟩ := Bts.of_owns p3 hB
        cases e2
        cases e3
        clear p2 p3
        go_wp2_with fail
        refine (same_yes _ _ n n _ _ l _ B2 B3).mono ?_
        rintro e w' ⟨rfl, q, rfl⟩
        go_wp2_with fail
        refine (lives_any _).mono ?_
        rintro e w5 ⟨rfl, hb7⟩
        go_wp2
        go_ret
        exact ⟨rfl, (below_drewN hb5 q).trans (hb7.mono (by simpa using hb5.size))⟩
  · have hr' : a1 < 1 ∨ 8 < a1 := by omega
    have hsame : Bts w none 0 0 [] := ⟨rfl, Byt.nil, Nat.le_refl _, Nat.zero_le _, fun _ => rfl, fun h => absurd h (Nat.lt_irrefl _)⟩
    go_enter Try.func3, Try.ntmps3
    go_wp2_with fail
    refine (put_none a0 a1 _ hr').mono ?_
    rintro e w' ⟨rfl, rfl⟩
    go_wp2_with fail
    refine (put_none a0 a1 _ hr').mono ?_
    rintro e w' ⟨rfl, rfl⟩
    go_wp2_with fail
    refine (refput_none a0 a1 _ hr').mono ?_
    rintro e w' ⟨rfl, rfl⟩
    go_wp2_with fail
    refine (same_yes none none 0 0 0 0 [] _ hsame hsame).mono ?_
    rintro e w' ⟨rfl, q, rfl⟩
    go_wp2
    go_loop [8] (fun i => i = .int .i64 0) (fun _ => 0)
    case atStart => rfl
    case round =>
      obtain rfl := hrel
      go_wp2_with fail
      refine (same_yes none none 0 0 0 0 [] _ (hsame.drewN q) (hsame.drewN q)).mono ?_
      rintro e w' ⟨rfl, q2, rfl⟩
      go_wp2_with fail
      refine (lives_any _).mono ?_
      rintro e w2 ⟨rfl, hb2⟩
      go_wp2
      go_ret
      exact ⟨rfl, (below_drewN (Below.refl _ _) (q + q2)).trans (hb2.mono (Nat.le_refl _))⟩

/-! ### THE ROW's STEP: WRITTEN OUT: LEAVE IT -/
set_option maxRecDepth 100000 in
theorem lifted (os : Os) (started : os.Started) (H : Type) (enc : TypeId × Value → H) :
    ReturnsInHanded {} Try.checked os 3 .any (Rows.wordPutsSpec.pre6 enc Try.prog Try.f3 Rows.wordPutsRow.domain false) (Rows.wordPutsSpec.post enc Try.prog Try.f3 false true false false) := by
  refine returnsInHanded_of_change (C := Try.checked) own started (by kernel_rfl) Try.func3
    (ChangeSpec.witness6 (enc := enc) (C := Try.checked) false ⟨#[], #[.int .u64 0, .int .i64 0], []⟩ 8 (by kernel_rfl) (by kernel_rfl) (by kernel_rfl) (by kernel_rfl)) ?_
  intro W base args ds gs before hval0 hW hcnd _
  have hval : ∀ (j : Nat) t v, Try.f3.params[j]? = some t → args[j]? = some v → Value.okWide Try.prog W .any base t v := hval0
  have hW' := hW
  obtain ⟨p, q, hA0, hV, rfl, hfz, hnd⟩ := hW
  have hA : DataW.TrodAll enc Try.prog W 0 (fun _ => true) true Try.f3.params.toList args.toList ds p := hA0
  rw [Try.params3] at hA hval
  obtain ⟨v0, vs0, d0, ds0, p0, q0, hargs, rfl, rfl, h0, r0⟩ := trodAll_cons hA
  obtain ⟨v1, vs1, d1, ds1, p1, q1, rfl, rfl, rfl, h1, r1⟩ := trodAll_cons r0
  obtain ⟨rfl, rfl, rfl⟩ := trodAll_nil r1
  obtain rfl : args = #[v0, v1] := by cases args; simp_all
  obtain ⟨rfl, rfl⟩ := trodVars_none hV
  obtain ⟨a0, rfl, rfl, rfl, w0⟩ := open_int Try.underlying22 (hval 0 22 v0 rfl rfl) h0
  obtain ⟨a1, rfl, rfl, rfl, w1⟩ := open_int Try.underlying3 (hval 1 3 v1 rfl rfl) h1
  clear hA0 hval0
  refine (walk a0 a1 w0 w1 W).mono fun e W' ⟨he, bel⟩ => ?_
  subst he
  exact ⟨_, rfl, _, _, _, [], _, [], hW', trodAll_mk1 (shut_bool Try.underlying4 _), (trodAll_cons_mk (shut_int Try.underlying22 w0) (trodAll_cons_mk (shut_int Try.underlying3 w1) trodAll_mk0)), rfl, bel.frame _, fun h => by cases h⟩

theorem over : Rows.wordPutsRow.holds Try.pinned (OpenSpec.ofChange Rows.wordPutsSpec) :=
  OpenClaim.holds_of_wide 3 Try.f3 rfl rfl rfl rfl rfl rfl rfl ⟨rfl, rfl, rfl, rfl, rfl⟩ rfl rfl rfl rfl rfl (by kernel_rfl) Try.func3 (by kernel_rfl)
    (of_decide_eq_true (by kernel_rfl)) (by unfold Func.isWrapper; first | (rw [if_pos (by decide +kernel)]; kernel_rfl) | (rw [if_neg (by decide +kernel)]; exact ⟨rfl, rfl⟩))
    (fun os started H enc _ => lifted os started H enc)

/-- ████ THE STATEMENT ████ -/
theorem proved : Rows.WordPutsSaid :=
  over
end Go.Proofs.Ythlkdbfaelgadaa.wordPuts
namespace Go.Proofs.Ythlkdbfaelgadaa
theorem wordPuts_holds : Rows.WordPutsSaid := wordPuts.proved
#print axioms wordPuts_holds
end Go.Proofs.Ythlkdbfaelgadaa
