/- For every list of calls and every list of bools the law DiskFast returns true and both read as they did (P9.6): behind a sync no crash changes anything. No condition. -/
import Derived.Test.YtihmfnndnjhpbaaRows
import Derived.Test.YtihmfnndnjhpbaaAll9
import Derived.WalkKit
import Derived.ProofKit
import Derived.OpenShut
import Derived.ShutString
import Derived.ChangeOld
import Derived.Below
namespace Go.Proofs.Ytihmfnndnjhpbaa.diskFast
open Go.ChangeShapes Go.WideShapes Go.ChangeAt Go.RowKit
open Go.ChangeMaps (open_string shut_string)
set_option linter.unusedVariables false

theorem own : ownKnob Try.prog.godebug = none := by kernel_rfl
theorem laidOut : laidOutB Try.prog = true := by kernel_rfl


set_option maxRecDepth 100000 in
set_option maxHeartbeats 1000000 in
theorem walk (a0 : Option Addr) (len0 cap0 : Nat) (L : List DoM) (a1 : Option Addr) (len1 cap1 : Nat) (K : List Bool) (w : World) (hL : Dos w a0 len0 cap0 L) (hK : Bls w a1 len1 cap1 K) :
    Calls Try.prog 4 #[.slice a0 len0 cap0, .slice a1 len1 cap1] w fun e w' => e = .returned (.bool true) ∧ Below w.heap.size w w' := by
  go_enter Try.func4, Try.ntmps4
  go_wp2_with fail
  refine (made_any a0 len0 cap0 L _ hL).mono ?_
  rintro e w1 ⟨g, own, rfl, hD, hown, hb1⟩
  obtain ⟨h8, hOl⟩ := mdS_eight (L.take 150)
  have hO : (mdS (L.take 150)).O.length ≤ 1000000 := by rw [List.length_take] at hOl; omega
  generalize mdS (L.take 150) = s at hD h8 hO
  have hK1 := hK.below hb1
  have hs1 := hb1.size
  have HOW : Bx _ := ⟨hown⟩
  clear hOl hL
  have HFB : Bx (∀ m, m ≤ len1 → 0 < m → ∀ p, a1 = some p → ¬ own p.block) := ⟨fun m h1 h2 => far_bls hK hown (by omega)⟩
  clear hK hown
  go_wp2_with fail
  refine (sync_any g own s _ hD hO).mono ?_
  rintro e w2 ⟨rfl, hD2, hkp2⟩
  obtain ⟨e1, e2⟩ := h8.sy
  rw [e2]
  have hb2 : Below w.heap.size w w2 := hb1.trans (hkp2.low HOW.out hs1)
  have hs2 := hb2.size
  have h8' : Eight s.sy := by rw [e1]; exact ⟨by show (app s.F s.O).length = 8; rw [app_len]; exact h8.n, h8.armed, h8.off⟩
  have hO0 : s.sy.O = [] := by rw [e1]
  have hK2 := hK1.kept hkp2 (HFB.out len1 (Nat.le_refl _))
  generalize s.sy = s2 at hD2 h8' hO0
  have hOl2 : s2.O.length = 0 := by rw [hO0]; rfl
  clear hD h8 hO hb1 hs1 hK1 hkp2 e1 e2
  go_wp2_with fail
  refine (open_any g own s2 _ hD2).mono ?_
  rintro e w' ⟨rfl, rfl⟩
  rw [hOl2]
  go_wp2_with fail
  refine (all_any g own s2 _ hD2 h8'.n h8'.off).mono ?_
  rintro e w3 ⟨a3, c3, rfl, hT3, hb3⟩
  have hD3 := hD2.below hb3
  have hK3 := hK2.below hb3
  have hb03 := bstep hb2 hb3
  have hs3 := hb03.size
  have HSX : Bx (Sxl s2.now) := ⟨app_sx hD2.ok.f hD2.ok.o⟩
  have HLT : Bx (∀ k, own k → k < w2.heap.size) := ⟨hD2.lt⟩
  clear hD2 hK2 hb2 hs2 hb3
  go_wp2_with fail
  refine (kept_any a1 len1 cap1 K _ hK3).mono ?_
  rintro e w' ⟨⟨m, rfl, hm, hKm⟩, rfl⟩
  have hfar : 0 < m → ∀ p, a1 = some p → ¬ own p.block := HFB.out m (by have e1 := hKm.len_eq; have e2 := hK3.len_eq; rw [List.length_take] at e1; omega)
  generalize K.take 300 = K' at hKm
  clear hK3 HFB
  go_wp2_with fail
  refine (crash_any g own s2 a1 m cap1 K' _ hD3 hKm hfar (by omega)).mono ?_
  rintro e w4 ⟨rfl, hD4, hkp4⟩
  have hNW : (s2.cr K').now = s2.now := by
    show app (app s2.F (kpt s2.O K')) [] = app s2.F s2.O
    rw [hO0]; cases K' <;> rfl
  have h84 : (s2.cr K').F.length = 8 := by show (app s2.F _).length = 8; rw [app_len]; exact h8'.n
  have hof4 : (s2.cr K').off = false := rfl
  have hb04 : Below w.heap.size w w4 := hb03.trans (hkp4.low HOW.out hs3)
  have hT4 := hT3.kept hkp4 (fun k hk => HLT.out k hk)
  have hs4 := hb04.size
  clear hD3 hkp4 hfar hKm hT3 hb03 hs3
  go_wp2_with fail
  refine (all_any g own (s2.cr K') _ hD4 h84 hof4).mono ?_
  rintro e w5 ⟨a5, c5, rfl, hT5, hb5⟩
  rw [hNW] at hT5
  have hT45 := (hT4.below hb5).txs
  have hT55 := hT5.txs
  have hb05 := bstep hb04 hb5
  clear hT4 hT5 hD4 hb04 hb5 hs4
  go_wp2_with fail
  refine (same9_yes a3 a5 8 c3 c5 s2.now _ hT45 hT55 HSX.out).mono ?_
  rintro e w6 ⟨rfl, q, hq⟩
  have hb06 : Below w.heap.size w w6 := by rw [hq]; exact below_drewN hb05 q
  clear hq hT45 hT55 hb05
  go_wp2_with fail
  refine (lives_any _).mono ?_
  rintro e w7 ⟨rfl, hb7⟩
  go_wp2
  go_ret
  exact ⟨rfl, bstep hb06 hb7⟩

set_option maxRecDepth 100000 in
theorem lifted (os : Os) (started : os.Started) (H : Type) (enc : TypeId × Value → H) :
    ReturnsInHanded {} Try.checked os 4 .any (Rows.diskFastSpec.pre6 enc Try.prog Try.f4 Rows.diskFastRow.domain false) (Rows.diskFastSpec.post enc Try.prog Try.f4 false true false false) := by
  refine returnsInHanded_of_change (C := Try.checked) own started (by kernel_rfl) Try.func4
    (ChangeSpec.witness6 (enc := enc) (C := Try.checked) false ⟨#[], #[.slice none 0 0, .slice none 0 0], []⟩ 8 (by kernel_rfl) (by kernel_rfl) (by kernel_rfl) (by kernel_rfl)) ?_
  intro W base args ds gs before hval0 hW hcnd _
  have hval : ∀ (j : Nat) t v, Try.f4.params[j]? = some t → args[j]? = some v → Value.okWide Try.prog W .any base t v := hval0
  have hW' := hW
  obtain ⟨p, q, hA0, hV, rfl, hfz, hnd⟩ := hW
  have hA : DataW.TrodAll enc Try.prog W 0 (fun _ => true) true Try.f4.params.toList args.toList ds p := hA0
  rw [Try.params4] at hA hval
  obtain ⟨v0, vs0, d0, ds0, p0, q0, hargs, rfl, rfl, h0, r0⟩ := trodAll_cons hA
  obtain ⟨v1, vs1, d1, ds1, p1, q1, rfl, rfl, rfl, h1, r1⟩ := trodAll_cons r0
  obtain ⟨rfl, rfl, rfl⟩ := trodAll_nil r1
  obtain rfl : args = #[v0, v1] := by cases args; simp_all
  obtain ⟨rfl, rfl⟩ := trodVars_none hV
  obtain ⟨a0, len0, cap0, rfl⟩ := okWide_slice Try.underlying22 (hval 0 22 v0 rfl rfl)
  obtain ⟨a1, len1, cap1, rfl⟩ := okWide_slice Try.underlying34 (hval 1 34 v1 rfl rfl)
  have k0 := h0
  have lt0 : ∀ x ∈ p0, x.block < W.heap.size := by obtain ⟨m, hm⟩ := k0; exact DataW.trod_lt m _ _ _ hm
  have k1 := h1
  have lt1 : ∀ x ∈ p1, x.block < W.heap.size := by obtain ⟨m, hm⟩ := k1; exact DataW.trod_lt m _ _ _ hm
  obtain ⟨L, hL⟩ := open_dos h0
  obtain ⟨K, hK⟩ := open_bls h1
  clear hA0 hval0
  refine (walk a0 len0 cap0 L a1 len1 cap1 K W hL hK).mono fun e W' ⟨he, bel⟩ => ?_
  subst he
  exact ⟨_, rfl, _, _, _, [], _, [], hW', trodAll_mk1 (shut_bool Try.underlying4 _), (trodAll_cons_mk (Below.trod laidOut (by kernel_rfl) (of_decide_eq_true (by kernel_rfl)) k0 bel lt0) (trodAll_cons_mk (Below.trod laidOut (by kernel_rfl) (of_decide_eq_true (by kernel_rfl)) k1 bel lt1) trodAll_mk0)), rfl, bel.frame _, fun h => by cases h⟩

theorem over : Rows.diskFastRow.holds Try.pinned (OpenSpec.ofChange Rows.diskFastSpec) :=
  OpenClaim.holds_of_wide 4 Try.f4 rfl rfl rfl rfl rfl rfl rfl ⟨rfl, rfl, rfl, rfl, rfl⟩ rfl rfl rfl rfl rfl (by kernel_rfl) Try.func4 (by kernel_rfl)
    (of_decide_eq_true (by kernel_rfl)) (by unfold Func.isWrapper; first | (rw [if_pos (by decide +kernel)]; kernel_rfl) | (rw [if_neg (by decide +kernel)]; exact ⟨rfl, rfl⟩))
    (fun os started H enc _ => lifted os started H enc)

/-- the statement -/
theorem proved : Rows.DiskFastSaid := over
end Go.Proofs.Ytihmfnndnjhpbaa.diskFast
namespace Go.Proofs.Ytihmfnndnjhpbaa
theorem diskFast_holds : Rows.DiskFastSaid := diskFast.proved
#print axioms diskFast_holds
end Go.Proofs.Ytihmfnndnjhpbaa
