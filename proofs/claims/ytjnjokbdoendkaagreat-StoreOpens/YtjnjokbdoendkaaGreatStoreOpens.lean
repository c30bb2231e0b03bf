/- For every list of texts and every int the law StoreOpens returns true and the texts read as they did (P11.3): which store any texts on a disk are, or why there is none. No condition. -/
import Derived.Test.YtjnjokbdoendkaaGreatRows
import Derived.Test.YtjnjokbdoendkaaGreatStl
import Derived.Test.YtjnjokbdoendkaaGreatSla
import Derived.Test.YtjnjokbdoendkaaGreatSdi
import Derived.Test.YtjnjokbdoendkaaGreatSma
import Derived.WalkKit
import Derived.ProofKit
import Derived.OpenShut
import Derived.ShutString
import Derived.ChangeOld
import Derived.Below
namespace Go.Proofs.YtjnjokbdoendkaaGreat.storeOpens
open Go.ChangeShapes Go.WideShapes Go.ChangeAt Go.RowKit
open Go.ChangeMaps (open_string shut_string)
set_option linter.unusedVariables false

theorem own : ownKnob Tryz.prog.godebug = none := by kernel_rfl
theorem laidOut : laidOutB Tryz.prog = true := by kernel_rfl

theorem tri_kept {own w w' gd gl gs oD oL oS s L q M} (h : Tri w gd gl gs oD oL oS s L q M) (hK : Kept own w w') (hd : ∀ k, oD k ∨ oL k ∨ oS k → ¬ own k) : Tri w' gd gl gs oD oL oS s L q M :=
  ⟨h.d.kept hK (fun k hk => hd k (.inl hk)), h.l.kept hK (fun k hk => hd k (.inr (.inl hk))), h.t.kept hK (fun k hk => hd k (.inr (.inr hk))), h.ld, h.sd, h.sl⟩

set_option maxRecDepth 100000 in
set_option maxHeartbeats 4000000 in
theorem walk (a0 : Option Addr) (len0 cap0 : Nat) (texts : List (List Int)) (quota : Int) (w : World) (htexts : Txs w a0 len0 cap0 texts) (hquota : I64 quota) :
    Calls Tryz.prog 4 #[.slice a0 len0 cap0, .int .i64 quota] w fun e w' => e = .returned (.bool true) ∧ Below w.heap.size w w' := by
  have HT := Bx.mk htexts
  have hqb := hquota
  unfold I64 at hqb
  clear htexts hquota
  go_enter Tryz.func4, Tryz.ntmps4
  go_wp2_with fail
  refine (new_any 200 _ (by decide) (by decide)).mono ?_
  rintro e w1 ⟨gd, rfl, hD1, hb1⟩
  have HD1 := Bx.mk hD1
  have HB1 := Bx.mk hb1
  clear hD1 hb1
  go_wp2_with fail
  refine (rnew_any 200 _ (by decide) (by decide)).mono ?_
  rintro e w2 ⟨gx, rfl, hX2, hb2⟩
  have HD2 := Bx.mk (HD1.out.below hb2)
  have HX2 := Bx.mk hX2
  have HB2 := Bx.mk hb2
  have HLW2 := Bx.mk (bstep HB1.out hb2)
  clear hX2 hb2 HD1
  go_wp2_with fail
  refine (laid_any w _ gd gx _ _ (dnew 200) a0 len0 cap0 texts HD2.out HX2.out (rest_new 200) rfl (by simp [dnew]) (fun k hk ho => by have := hk.1; have := ho.2; omega) (fun k hk => by have := HB1.out.size; rcases hk with hk | hk; exact hk.1; have := hk.1; omega) HLW2.out HT.out).mono ?_
  rintro e w3 ⟨rfl, s, T, m, oD, oX, hD3, hX3, hm3, hr3, hn3, hdj3, hge3, hlow3⟩
  have HD3 := Bx.mk hD3
  have HX3 := Bx.mk hX3
  have HR3 := Bx.mk hr3
  have HN3 := Bx.mk hn3
  have HDJ := Bx.mk hdj3
  have HGE := Bx.mk hge3
  have HLW := Bx.mk hlow3
  have HOK : Bx s.Ok := ⟨hD3.ok⟩
  clear hD3 hX3 hr3 hn3 hdj3 hge3 hlow3 HD2 HX2 HB1 HB2 HLW2
  by_cases hq : quota < 0
  · go_wp2_with fail
    refine (sopen_arg _ quota _ hq).mono ?_
    rintro e w' ⟨rfl, rfl⟩
    go_wp2_with fail
    refine (rsopen_arg gx quota _ hq).mono ?_
    rintro e w' ⟨rfl, rfl⟩
    go_wp2_with fail
    refine (lives_any _).mono ?_
    rintro e w9 ⟨rfl, hb9⟩
    have HF := Bx.mk (bstep HLW.out hb9)
    clear hb9
    go_wp2_with fail
    go_ret
    exact ⟨rfl, HF.out⟩
  · obtain ⟨z1, z2⟩ := wip_rest HR3.out
    have HRD := Bx.mk (HR3.out.rd HOK.out)
    have HZ1 := Bx.mk z1
    have HZ2 := Bx.mk z2
    clear z1 z2
    go_wp2_with fail
    refine (sopen_ok gd oD s quota _ T (FrS 0 T).length (Int.not_lt.2 hq) HD3.out HR3.out.off HRD.out (by rw [HR3.out.o]; exact Nat.zero_le _) HZ1.out).mono ?_
    intro e w4 hS4
    obtain ⟨p, HP⟩ : ∃ p, Bx (p = (FrS 0 T).length) := ⟨_, ⟨rfl⟩⟩
    have HPL : Bx (p ≤ 200) := ⟨by rw [HP.out]; have := rest_le HR3.out; rw [HN3.out] at this; exact this⟩
    by_cases hTD : TDec T
    · obtain ⟨gs, gl, pD, pL, pS, rfl, hTri, hdid, hlg, hsg⟩ : ∃ gs gl pD pL pS, e = .returned (.tuple #[.pointer (some ⟨gs, 0, none⟩), .int .i64 0]) ∧ Tri w4 gd gl gs pD pL pS s ⟨T, p, false⟩ quota (mkM T) ∧ Did oD w3 w4 pD ∧ (∀ k, pL k → w3.heap.size ≤ k) ∧ (∀ k, pS k → w3.heap.size ≤ k) := by
        rcases hS4 with ⟨_, h2⟩ | ⟨h2, _⟩
        · rw [HZ2.out] at h2; rw [HP.out]; exact h2
        · exact absurd hTD h2
      have HX4 : Bx (RS w4 gx oX s m) := ⟨HX3.out.kept hdid.kept (fun k hk => HDJ.out k hk)⟩
      have HTri := Bx.mk hTri
      have HNO : Bx (∀ k, pD k ∨ pL k ∨ pS k → ¬ oX k) := ⟨fun k hk ho => by
        have hlt := HX3.out.lt k ho
        rcases hk with hk | hk | hk
        · rcases hdid.new k hk with h | h
          · exact HDJ.out k ho h
          · omega
        · have := hlg k hk; omega
        · have := hsg k hk; omega⟩
      have HLW4 : Bx (Below w.heap.size w w4) := ⟨HLW.out.trans (hdid.kept.low (fun k hk => HGE.out k (.inl hk)) HLW.out.size)⟩
      clear hS4 hTri hdid hlg hsg HD3 HX3
      go_wp2_with fail
      refine (rsopen_ok gx oX s m quota _ T (FrS 0 T).length (Int.not_lt.2 hq) HX4.out HOK.out HR3.out.off (by rw [HN3.out]; omega) HRD.out HZ1.out).mono ?_
      intro e w5 hS5
      obtain ⟨pX, hX5, hd5, hS6⟩ := hS5
      obtain ⟨gz, gy, pY, B, K, a, n, c, rfl, hY5, hZ5, hR5⟩ : ∃ gz gy pY B K a n c, e = .returned (.tuple #[.pointer (some ⟨gz, 0, none⟩), .int .i64 0]) ∧ Rg w5 gy pY gx ⟨T, p, false⟩ ∧ RSt w5 gz gy quota B a n c K ∧ Rep K (mkM T) := by
        rcases hS6 with ⟨_, h2⟩ | ⟨h2, _⟩
        · rw [← HP.out] at h2; exact h2
        · exact absurd hTD h2
      rw [HZ2.out] at hX5
      have hTB : ∀ x ∈ T, Byt x := fun x hx => (HR3.out.t x hx).2
      have hTl : T.length ≤ 4096 := by obtain ⟨vt, hh⟩ := hY5; exact Nat.le_trans hh.tn hh.n2
      have HTW : Bx (TwoS w5 gd gl gs pD pL pS gx gy gz pX pY B s (m + s.F.length) ⟨T, p, false⟩ quota quota (mkM T) K a n c) := ⟨tri_kept HTri.out hd5.kept (fun k hk => HNO.out k hk), hX5, hY5, hZ5, hR5, by show p ≤ s.F.length; rw [HN3.out]; exact HPL.out, by rw [HN3.out]; decide, by
        have h2 : (mkM T).length ≤ 0 + 16 * T.length := mkM_length T [] hTB
        omega, by have := mkM_by hTB hTl; omega, fun x hx => by
        have := (mkM_ok T [] MOk.nil hTB).k2 x (hR5.p.subset hx)
        omega⟩
      have HLW5 : Bx (Below w.heap.size w w5) := ⟨HLW4.out.trans (hd5.kept.low (fun k hk => HGE.out k (.inr hk)) HLW4.out.size)⟩
      clear hX5 hd5 hS6 hY5 hZ5 hR5 HTri HX4 HNO HLW4 HLW
      go_wp2_with fail
      refine (tells_any gd gl gs pD pL pS gx gy gz pX pY B s _ _ quota quota (mkM T) K a n c ⟨#[]⟩ ⟨#[97]⟩ 9 _ HTW.out (by decide) (by decide) (by decide)).mono ?_
      rintro e w6 ⟨rfl, hb6⟩
      have HLW := Bx.mk (bstep HLW5.out hb6)
      clear hb6 HTW HLW5
      go_wp2_with fail
      refine (lives_any _).mono ?_
      rintro e w9 ⟨rfl, hb9⟩
      have HF := Bx.mk (bstep HLW.out hb9)
      clear hb9
      go_wp2_with fail
      go_ret
      exact ⟨rfl, HF.out⟩
    · obtain ⟨rfl, pD, hD4, hdid⟩ : e = .returned (.tuple #[.pointer none, .int .i64 4]) ∧ ∃ own', Dsk w4 gd own' (s.wipS (FrS 0 T).length) ∧ Did oD w3 w4 own' := by
        rcases hS4 with ⟨h2, _⟩ | ⟨_, h2⟩
        · exact absurd h2 hTD
        · exact h2
      have HX4 : Bx (RS w4 gx oX s m) := ⟨HX3.out.kept hdid.kept (fun k hk => HDJ.out k hk)⟩
      have HLW4 : Bx (Below w.heap.size w w4) := ⟨HLW.out.trans (hdid.kept.low (fun k hk => HGE.out k (.inl hk)) HLW.out.size)⟩
      clear hS4 hD4 hdid HD3 HX3
      go_wp2_with fail
      refine (rsopen_ok gx oX s m quota _ T (FrS 0 T).length (Int.not_lt.2 hq) HX4.out HOK.out HR3.out.off (by rw [HN3.out]; omega) HRD.out HZ1.out).mono ?_
      intro e w5 hS5
      obtain ⟨pX, hX5, hd5, hS6⟩ := hS5
      obtain rfl : e = .returned (.tuple #[.pointer none, .int .i64 4]) := by
        rcases hS6 with ⟨h2, _⟩ | ⟨_, h2⟩
        · exact absurd h2 hTD
        · exact h2
      have HLW5 : Bx (Below w.heap.size w w5) := ⟨HLW4.out.trans (hd5.kept.low (fun k hk => HGE.out k (.inr hk)) HLW4.out.size)⟩
      clear hX5 hd5 hS6 HX4 HLW4 HLW
      have HLW := HLW5
      go_wp2_with fail
      refine (lives_any _).mono ?_
      rintro e w9 ⟨rfl, hb9⟩
      have HF := Bx.mk (bstep HLW.out hb9)
      clear hb9
      go_wp2_with fail
      go_ret
      exact ⟨rfl, HF.out⟩

set_option maxRecDepth 100000 in
theorem lifted (os : Os) (started : os.Started) (H : Type) (enc : TypeId × Value → H) :
    ReturnsInHanded {} Tryz.checked os 4 .any (Rows.storeOpensSpec.pre6 enc Tryz.prog Tryz.f4 Rows.storeOpensRow.domain false) (Rows.storeOpensSpec.post enc Tryz.prog Tryz.f4 false true false false) := by
  refine returnsInHanded_of_change (C := Tryz.checked) own started (by kernel_rfl) Tryz.func4
    (ChangeSpec.witness6 (enc := enc) (C := Tryz.checked) false ⟨#[], #[.slice none 0 0, .int .i64 0], []⟩ 8 (by kernel_rfl) (by kernel_rfl) (by kernel_rfl) (by kernel_rfl)) ?_
  intro W base args ds gs before hval0 hW hcnd _
  have hval : ∀ (j : Nat) t v, Tryz.f4.params[j]? = some t → args[j]? = some v → Value.okWide Tryz.prog W .any base t v := hval0
  have hW' := hW
  obtain ⟨p, q, hA0, hV, rfl, hfz, hnd⟩ := hW
  have hA : DataW.TrodAll enc Tryz.prog W 0 (fun _ => true) true Tryz.f4.params.toList args.toList ds p := hA0
  rw [Tryz.params4] at hA hval
  obtain ⟨v0, vs0, d0, ds0, p0, q0, hargs, rfl, rfl, h0, r0⟩ := trodAll_cons hA
  obtain ⟨v1, vs1, d1, ds1, p1, q1, rfl, rfl, rfl, h1, r1⟩ := trodAll_cons r0
  obtain ⟨rfl, rfl, rfl⟩ := trodAll_nil r1
  obtain rfl : args = #[v0, v1] := by cases args; simp_all
  obtain ⟨rfl, rfl⟩ := trodVars_none hV
  obtain ⟨a0, len0, cap0, rfl⟩ := okWide_slice Tryz.underlying57 (hval 0 57 v0 rfl rfl)
  have k0 := h0
  have lt0 : ∀ x ∈ p0, x.block < W.heap.size := by obtain ⟨m, hm⟩ := k0; exact DataW.trod_lt m _ _ _ hm
  have k1 := h1
  have lt1 : ∀ x ∈ p1, x.block < W.heap.size := by obtain ⟨m, hm⟩ := k1; exact DataW.trod_lt m _ _ _ hm
  obtain ⟨texts, htexts⟩ := open_txs h0
  obtain ⟨quota, rfl, hquota⟩ := open_i64 (hval 1 3 v1 rfl rfl) h1
  clear hA0 hval0
  refine (walk a0 len0 cap0 texts quota W htexts hquota).mono fun e W' ⟨he, bel⟩ => ?_
  subst he
  exact ⟨_, rfl, _, _, _, [], _, [], hW', trodAll_mk1 (shut_bool Tryz.underlying4 _), (trodAll_cons_mk (Below.trod laidOut (by kernel_rfl) (of_decide_eq_true (by kernel_rfl)) k0 bel lt0) (trodAll_cons_mk (Below.trod laidOut (by kernel_rfl) (of_decide_eq_true (by kernel_rfl)) k1 bel lt1) trodAll_mk0)), rfl, bel.frame _, fun h => by cases h⟩

theorem over : Rows.storeOpensRow.holds Tryz.pinned (OpenSpec.ofChange Rows.storeOpensSpec) :=
  OpenClaim.holds_of_wide 4 Tryz.f4 rfl rfl rfl rfl rfl rfl rfl ⟨rfl, rfl, rfl, rfl, rfl⟩ rfl rfl rfl rfl rfl (by kernel_rfl) Tryz.func4 (by kernel_rfl)
    (of_decide_eq_true (by kernel_rfl)) (by unfold Func.isWrapper; first | (rw [if_pos (by decide +kernel)]; kernel_rfl) | (rw [if_neg (by decide +kernel)]; exact ⟨rfl, rfl⟩))
    (fun os started H enc _ => lifted os started H enc)

/-- the statement -/
theorem proved : Rows.StoreOpensSaid := over
end Go.Proofs.YtjnjokbdoendkaaGreat.storeOpens
namespace Go.Proofs.YtjnjokbdoendkaaGreat
theorem storeOpens_holds : Rows.StoreOpensSaid := storeOpens.proved
#print axioms storeOpens_holds
end Go.Proofs.YtjnjokbdoendkaaGreat
