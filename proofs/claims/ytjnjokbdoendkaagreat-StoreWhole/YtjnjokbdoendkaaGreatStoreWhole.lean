/- StoreWhole: a commit that is refused changes nothing, and one that is done just what it says (P11.4). No condition. -/
import Derived.Test.YtjnjokbdoendkaaGreatRows
import Derived.Test.YtjnjokbdoendkaaGreatSlw
import Derived.Test.YtjnjokbdoendkaaGreatSma
import Derived.WalkKit
import Derived.ProofKit
import Derived.OpenShut
import Derived.ShutString
import Derived.ChangeOld
import Derived.Below
namespace Go.Proofs.YtjnjokbdoendkaaGreat.storeWhole
open Go.ChangeShapes Go.WideShapes Go.ChangeAt Go.RowKit
open Go.ChangeMaps (open_string shut_string)
set_option linter.unusedVariables false

theorem own : ownKnob Tryz.prog.godebug = none := by kernel_rfl
theorem laidOut : laidOutB Tryz.prog = true := by kernel_rfl


set_option maxRecDepth 100000 in
set_option maxHeartbeats 4000000 in
theorem walk (sectors : Int) (quota : Int) (a2 : Option Addr) (len2 cap2 : Nat) (l : List DoM) (a3 : Option Addr) (len3 cap3 : Nat) (c : List Chg) (key : ByteArray) (w : World) (hsectors : I64 sectors) (hquota : I64 quota) (hl : Dos w a2 len2 cap2 l) (hc : Chs w a3 len3 cap3 c) (hkey : key.size ≤ maxLen) :
    Calls Tryz.prog 6 #[.int .i64 sectors, .int .i64 quota, .slice a2 len2 cap2, .slice a3 len3 cap3, .string key] w fun e w' => e = .returned (.bool true) ∧ Below w.heap.size w w' := by
  have HDL := Bx.mk hl
  have HCH := Bx.mk hc
  have hk2 := hkey
  unfold maxLen at hk2
  obtain ⟨q, HQ⟩ : ∃ q, Bx (q = leastV quota 0 1099511627776) := ⟨_, ⟨rfl⟩⟩
  have hq0 : ¬ q < 0 := by have := (least_bd quota 0 1099511627776 (by decide)).1; rw [HQ.out]; omega
  obtain ⟨ns, HNS⟩ : ∃ n : Nat, Bx (leastV sectors 1 200 = (n : Int) ∧ 1 ≤ n ∧ n ≤ 200) := by
    have h1 := least_bd sectors 1 200 (by decide)
    exact ⟨(leastV sectors 1 200).toNat, ⟨by omega, by omega, by omega⟩⟩
  clear hl hc
  go_enter Tryz.func6, Tryz.ntmps6
  go_wp2_with fail
  refine (least_any quota 0 1099511627776 _).mono ?_
  rintro e w' ⟨rfl, rfl⟩
  rw [← HQ.out]
  go_wp2_with fail
  refine (scut_any key 60 _ (by omega)).mono ?_
  rintro e wx ⟨⟨ky, rfl, hsz⟩, hwx⟩
  have hwy := hwx.symm
  clear hwx
  subst hwy
  clear hsz
  go_wp2_with fail
  refine (least_any sectors 1 200 _).mono ?_
  rintro e w' ⟨rfl, rfl⟩
  rw [HNS.out.1]
  go_wp2_with fail
  refine (new_any ns _ HNS.out.2.1 (by have := HNS.out.2.2; omega)).mono ?_
  rintro e w1 ⟨gd, rfl, hD, hb1⟩
  obtain ⟨own, hown⟩ : ∃ own : Nat → Prop, own = fun k => w.heap.size ≤ k ∧ k < w1.heap.size := ⟨_, rfl⟩
  rw [← hown] at hD
  have HO : Bx (∀ k, own k → w.heap.size ≤ k) := ⟨fun k h => by rw [hown] at h; exact h.1⟩
  clear hown
  go_wp2_with fail
  refine (sopen_rest gd own (dnew ns) q _ [] (by omega) hD (rest_new ns) (fun b hb => by simp at hb)).mono ?_
  rintro e w2 ⟨gs, gl, oD, oL, oS, rfl, hT, hdid, hlo, hso⟩
  have HDT0 : Bx (DT w w2 (fun _ => False) gd gl gs (dnew ns) (lgs []) q []) := ⟨⟨⟨oD, oL, oS, hT, fun k hk => ⟨by
    have hs1 := hb1.size
    rcases hk with h3 | h3 | h3
    · rcases hdid.new k h3 with h4 | h4
      · exact HO.out k h4
      · omega
    · have := hlo k h3; omega
    · have := hso k h3; omega, fun h => h⟩⟩, hb1.trans (hdid.kept.low HO.out hb1.size), fun k hk => hk.elim⟩⟩
  clear hT hdid hlo hso hb1 hD HO
  go_wp2_with fail
  refine (fewd_any a2 len2 cap2 l _ (HDL.out.below HDT0.out.low)).mono ?_
  rintro e w3 ⟨m, hmn, hm25, rfl, hb3⟩
  have HDT3 := Bx.mk (HDT0.out.step hb3)
  clear hb3 HDT0
  go_wp2_with fail
  refine (few11_any a3 len3 cap3 _ c _ (HCH.out.below HDT3.out.low).1 HCH.out.2).mono ?_
  rintro e w4 ⟨v4, rfl, hcl4, hb4⟩
  obtain ⟨a9, c9, rfl, hct⟩ := hcl4.rt chE_len
  obtain ⟨X, HXX⟩ : ∃ X : Nat → Prop, Bx (X = fun k => (False ∨ (w3.heap.size ≤ k ∧ k < w4.heap.size))) := ⟨_, ⟨rfl⟩⟩
  have HD4 : Bx (DT w w4 X gd gl gs (dnew ns) (lgs []) q []) := ⟨by rw [HXX.out]; exact HDT3.out.more hb4⟩
  have HC4 : Bx (CT X w4 a9 (fewL c).length c9 (fewL c)) := ⟨hct.mono (fun k _ hk => by rw [HXX.out]; exact .inr hk)⟩
  have HVC : Bx (∀ x ∈ fewL c, x.val.length ≤ 1000000) := ⟨fun x hx => by have := (fewL_ok c x hx).2; omega⟩
  have HKC : Bx (∀ x ∈ fewL c, x.key.size ≤ 9223372036854775807) := ⟨fun x hx => by have := (fewL_ok c x hx).1; omega⟩
  have hn9 := fewL_length c
  clear hcl4 hct hb4 HDT3 HXX
  generalize fewL c = lc at HC4 HVC HKC hn9 ⊢
  obtain ⟨n9, HN9⟩ : ∃ x, Bx (lc.length = x) := ⟨_, ⟨rfl⟩⟩
  rw [HN9.out] at HC4 hn9 ⊢
  go_wp2_with fail
  go_loopw [15] (fun i wr => ∃ (k : Nat) (s : DS) (L : LS) (T : List (List Int)) (M K : List Pr), k ≤ m ∧ i = .int .i64 k ∧ Bx (DT w wr X gd gl gs s L q M) ∧ Bx (Calm s L T) ∧ Bx (Rep K M) ∧ Bx (M.length ≤ 16 * k) ∧ Bx (CT X wr a9 n9 c9 lc)) (fun i _ => m - (intOf i).toNat)
  case atStart => exact ⟨0, _, _, [], [], [], Nat.zero_le _, rfl, HD4, ⟨Calm.new ns⟩, ⟨Rep.nil⟩, ⟨by simp⟩, HC4⟩
  case round =>
    clear HD4 HC4
    obtain ⟨k, s, L, T, M, K, hk, rfl, HDT, HCM, HRP, HML, HCT⟩ := hrel
    by_cases hlt : k < m
    · have hkI : (k : Int) < (m : Int) := by omega
      obtain ⟨b, off, b2, l2, c2, b3, l3, c3, rfl, x0, x1, x2, x3, hV, hbl⟩ := HDL.out.at HDT.out.low k (by omega)
      have HV := Bx.mk (hV.below HDT.out.low)
      clear hV x0 x1 x3
      go_wp2_with fail
      refine (few11_any b2 l2 c2 _ _ _ HV.out.l.1 HV.out.l.2).mono ?_
      rintro e w5 ⟨v5, rfl, hcl5, hb5⟩
      obtain ⟨a5, c5, rfl, hct5⟩ := hcl5.rt chE_len
      have HD5 := Bx.mk (HDT.out.more hb5)
      have HC5 : Bx (CT (fun k => X k ∨ (wr.heap.size ≤ k ∧ k < w5.heap.size)) w5 a5 _ c5 _) := ⟨hct5.mono (fun k _ hk => .inr hk)⟩
      have HCT5 := Bx.mk (HCT.out.below hb5)
      have HKF : Bx (∀ x ∈ fewL (l.getD k doZ).l, x.key.size ≤ 9223372036854775807) := ⟨fun x hx => by have := (fewL_ok _ x hx).1; omega⟩
      have hbm := few_b HDT.out.mo HML.out (by omega)
      have HBM := Bx.mk hbm
      clear hcl5 hct5 hb5 HV x2 HDT HCT hbm
      generalize fewL (l.getD k doZ).l = F at HC5 HKF ⊢
      have HST := Bx.mk (ahead_step (q := q) HCM.out HRP.out HML.out HC5.out.byts)
      generalize F.length = nf at HC5 ⊢
      go_wp2_with fail
      refine (dt_commit w _ _ gd gl gs s L q M a5 nf c5 F HD5.out HC5.out HKF.out HCM.out.o HBM.out.1).mono ?_
      rintro e w6 ⟨rfl, hd6, hx6⟩
      have HD6 : Bx (DT w w6 X gd gl gs _ _ q _) := ⟨hd6.less (fun k hk => .inl hk)⟩
      have HC6 : Bx (CT X w6 a9 n9 c9 lc) := ⟨HCT5.out.xk ⟨hx6.1, fun j hj => hx6.2 j (.inl hj)⟩⟩
      obtain ⟨T', K', h1, h2, h3⟩ := HST.out
      have H1 := Bx.mk h1
      have H2 := Bx.mk h2
      have H3 := Bx.mk h3
      clear hd6 hx6 h1 h2 h3 HST HD5 HC5 HCT5 HKF HBM
      generalize coE s L q M F = E
      generalize coS s L q M F = s' at HD6 H1
      generalize coL s L q M F = L' at HD6 H1
      generalize coM s L q M F = M' at HD6 H2 H3
      go_wp2_with fail
      go_roundw
      case rel => exact ⟨k + 1, s', L', T', M', K', by omega, by go_num, HD6, H1, H2, H3, HC6⟩
      case measure => simp [intOf]; omega
    · have hkI : ¬ (k : Int) < (m : Int) := by omega
      have hbm := few_b HDT.out.mo HML.out (by omega)
      obtain ⟨hby, hml⟩ := hbm
      have hml4 : M.length ≤ 400 := by have := HML.out; omega
      go_wp2_with fail
      refine (dt_all w _ X gd gl gs s L q M K HDT.out HRP.out hml).mono ?_
      rintro e w5 ⟨aw, nw, cw, rfl, hpw, hb5⟩
      obtain ⟨X2, HX2⟩ : ∃ X2 : Nat → Prop, Bx (X2 = fun k => (X k ∨ (wr.heap.size ≤ k ∧ k < w5.heap.size))) := ⟨_, ⟨rfl⟩⟩
      have HD5 : Bx (DT w w5 X2 gd gl gs s L q M) := ⟨by rw [HX2.out]; exact HDT.out.more hb5⟩
      have HW5 : Bx (PT X2 w5 aw nw cw K) := ⟨hpw.mono (fun k _ hk => by rw [HX2.out]; exact .inr hk)⟩
      have HC5 : Bx (CT X2 w5 a9 n9 c9 lc) := ⟨(HCT.out.below hb5).mono (fun k _ hk => by rw [HX2.out]; exact .inl hk)⟩
      have hnw : nw ≤ 400 := by have h1 := hpw.len_eq; have h2 := HRP.out.p.length_eq; omega
      clear hpw hb5 HDT HCT HX2
      go_wp2_with fail
      refine (dt_used w _ X2 gd gl gs s L q M HD5.out).mono ?_
      rintro e w' ⟨rfl, rfl⟩
      go_wp2_with fail
      refine (dt_room w _ X2 gd gl gs s L q M HD5.out HCM.out.next).mono ?_
      rintro e w6 ⟨rfl, hb6⟩
      have HD6 := Bx.mk (HD5.out.step hb6)
      have HW6 := Bx.mk (HW5.out.below hb6)
      have HC6 := Bx.mk (HC5.out.below hb6)
      clear hb6 HD5 HW5 HC5
      go_wp2_with fail
      refine (dt_commit w _ X2 gd gl gs s L q M a9 n9 c9 lc HD6.out HC6.out HKC.out HCM.out.o hby).mono ?_
      rintro e w7 ⟨rfl, hd7, hx7⟩
      have HPW := Bx.mk (HW6.out.xkp hx7)
      have HCT := Bx.mk (HC6.out.xk hx7)
      have HBY := Bx.mk HC6.out.byts
      clear hx7 HD6 HW6 HC6
      rcases HCM.out.commit q (M := M) lc HBY.out with ⟨hE, h1, h2, h3, h4⟩ | ⟨hE, h1, h2, h3⟩
      · rw [h2] at hd7
        have HD4 := Bx.mk hd7
        have HR2 := Bx.mk (HRP.out.done lc)
        have HOV : Bx (q < (byM (doM M lc) : Int) → ¬ (byM M : Int) < (byM (doM M lc) : Int)) := ⟨over_no HRP.out.nod h3 h4⟩
        have hm2 : (doM M lc).length ≤ 1000000 := by have := doM_length M lc; have := HN9.out; omega
        rw [hE]
        clear hE h1 h2 h3 h4 hd7 HRP
        generalize coS s L q M lc = s2 at HD4
        generalize coL s L q M lc = L2 at HD4
        go_wp2_with fail
        refine (dt_used w _ X2 gd gl gs s2 L2 q (doM M lc) HD4.out).mono ?_
        rintro e w' ⟨rfl, rfl⟩
        by_cases hg : q < (byM (doM M lc) : Int)
        · have hg2 := HOV.out hg
          clear HOV
          go_wp2_with fail
          refine (dt_used w _ X2 gd gl gs s2 L2 q (doM M lc) HD4.out).mono ?_
          rintro e w' ⟨rfl, rfl⟩
          go_wp2_with fail
          refine (dt_all w _ X2 gd gl gs s2 L2 q (doM M lc) (doneL K lc) HD4.out HR2.out hm2).mono ?_
          rintro e w6 ⟨a6, n6, c6, rfl, hp6, hb6⟩
          have HP6 := Bx.mk hp6
          have HW6 := Bx.mk (HPW.out.below hb6)
          have HC6 := Bx.mk (HCT.out.below hb6)
          have HD6 := Bx.mk (HD4.out.step hb6)
          clear hp6 hb6 HPW HCT HD4
          go_wp2_with fail
          refine (rdone_any _ _ aw a9 nw cw n9 c9 K lc _ HW6.out HC6.out HVC.out (by omega)).mono ?_
          rintro e w7 ⟨a7, n7, c7, rfl, hp7, hb7⟩
          go_wp2_with fail
          refine (psame_any _ _ a6 a7 n6 n7 c6 c7 _ _ _ (HP6.out.below hb7) hp7).mono ?_
          rintro e w8 ⟨rfl, hb8⟩
          rw [decide_eq_true rfl]
          have HB8 := Bx.mk (bstep hb7 hb8)
          have HW8 := Bx.mk (HW6.out.below HB8.out)
          have HC8 := Bx.mk (HC6.out.below HB8.out)
          have HD8 := Bx.mk (HD6.out.step HB8.out)
          clear hp7 hb7 hb8 HP6 HW6 HC6 HD6 HB8
          go_wp2_with fail
          refine (dt_get w _ X2 gd gl gs s2 L2 q (doM M lc) ky HD8.out).mono ?_
          rintro e w10 ⟨a10, n10, c10, rfl, hm10, hb10⟩
          have HM10 := Bx.mk hm10
          have HW10 := Bx.mk (HW8.out.below hb10)
          have HC10 := Bx.mk (HC8.out.below hb10)
          have HD10 := Bx.mk (HD8.out.step hb10)
          clear hm10 hb10 HW8 HC8 HD8
          go_wp2_with fail
          refine (rdone_any _ _ aw a9 nw cw n9 c9 K lc _ HW10.out HC10.out HVC.out (by omega)).mono ?_
          rintro e w11 ⟨a11, n11, c11, rfl, hp11, hb11⟩
          have hba : Below w11.heap.size w11 (w11.alloc (.cells #[.pointer none, .int .i64 0, .slice a11 n11 c11] 71)) := (Below.refl _ _).alloc (Nat.le_refl _) _
          have HP11 := Bx.mk (hp11.below hba)
          have HCL : Bx ((w11.alloc (.cells #[.pointer none, .int .i64 0, .slice a11 n11 c11] 71)).cell? ⟨w11.heap.size, 2, none⟩ = some (.slice a11 n11 c11)) := ⟨cell_of_row _ _ 2 _ _ (0, 0) (heap_alloc_new w11 _)⟩
          have HM11 := Bx.mk ((HM10.out.below hb11).below hba)
          have HD11 := Bx.mk ((HD10.out.step hb11).step hba)
          clear hp11 hb11 hba HM10 HW10 HC10 HD10
          go_wp2_with fail
          refine (rget_any _ a11 n11 c11 w11.heap.size (doneL K lc) ky _ HP11.out HCL.out).mono ?_
          rintro e w12 ⟨a12, n12, c12, rfl, hm12, rfl⟩
          rw [HR2.out.get ky] at hm12
          rw [HR2.out.get ky]
          have HM12 := Bx.mk hm12
          clear hm12 HP11 HCL
          generalize (w11.alloc (.cells #[.pointer none, .int .i64 0, .slice a11 n11 c11] 71)) = w13 at HM11 HM12 HD11 ⊢
          generalize (gtM (doM M lc) ky).isSome = ok
          generalize (gtM (doM M lc) ky).getD [] = vx at HM11 HM12
          have hokk : (ok == ok) = true := by cases ok <;> rfl
          go_wp2_with fail
          refine (same_yes _ _ _ _ _ _ _ _ HM11.out HM12.out).mono ?_
          rintro e w14 ⟨rfl, q14, hw14⟩
          have HD14 : Bx (DT w w14 X2 gd gl gs s2 L2 q (doM M lc)) := ⟨by rw [hw14]; exact HD11.out.step (below_drewN (Below.refl _ _) q14)⟩
          clear hw14 HM11 HM12 HD11
          go_wp2_with fail
          refine (lives_any _).mono ?_
          rintro e w15 ⟨rfl, hb15⟩
          have HF := Bx.mk (bstep HD14.out.low hb15)
          clear hb15
          go_wp2_with fail
          go_ret
          exact ⟨rfl, HF.out⟩
        · clear HOV
          go_wp2_with fail
          refine (dt_all w _ X2 gd gl gs s2 L2 q (doM M lc) (doneL K lc) HD4.out HR2.out hm2).mono ?_
          rintro e w6 ⟨a6, n6, c6, rfl, hp6, hb6⟩
          have HP6 := Bx.mk hp6
          have HW6 := Bx.mk (HPW.out.below hb6)
          have HC6 := Bx.mk (HCT.out.below hb6)
          have HD6 := Bx.mk (HD4.out.step hb6)
          clear hp6 hb6 HPW HCT HD4
          go_wp2_with fail
          refine (rdone_any _ _ aw a9 nw cw n9 c9 K lc _ HW6.out HC6.out HVC.out (by omega)).mono ?_
          rintro e w7 ⟨a7, n7, c7, rfl, hp7, hb7⟩
          go_wp2_with fail
          refine (psame_any _ _ a6 a7 n6 n7 c6 c7 _ _ _ (HP6.out.below hb7) hp7).mono ?_
          rintro e w8 ⟨rfl, hb8⟩
          rw [decide_eq_true rfl]
          have HB8 := Bx.mk (bstep hb7 hb8)
          have HW8 := Bx.mk (HW6.out.below HB8.out)
          have HC8 := Bx.mk (HC6.out.below HB8.out)
          have HD8 := Bx.mk (HD6.out.step HB8.out)
          clear hp7 hb7 hb8 HP6 HW6 HC6 HD6 HB8
          go_wp2_with fail
          refine (dt_get w _ X2 gd gl gs s2 L2 q (doM M lc) ky HD8.out).mono ?_
          rintro e w10 ⟨a10, n10, c10, rfl, hm10, hb10⟩
          have HM10 := Bx.mk hm10
          have HW10 := Bx.mk (HW8.out.below hb10)
          have HC10 := Bx.mk (HC8.out.below hb10)
          have HD10 := Bx.mk (HD8.out.step hb10)
          clear hm10 hb10 HW8 HC8 HD8
          go_wp2_with fail
          refine (rdone_any _ _ aw a9 nw cw n9 c9 K lc _ HW10.out HC10.out HVC.out (by omega)).mono ?_
          rintro e w11 ⟨a11, n11, c11, rfl, hp11, hb11⟩
          have hba : Below w11.heap.size w11 (w11.alloc (.cells #[.pointer none, .int .i64 0, .slice a11 n11 c11] 71)) := (Below.refl _ _).alloc (Nat.le_refl _) _
          have HP11 := Bx.mk (hp11.below hba)
          have HCL : Bx ((w11.alloc (.cells #[.pointer none, .int .i64 0, .slice a11 n11 c11] 71)).cell? ⟨w11.heap.size, 2, none⟩ = some (.slice a11 n11 c11)) := ⟨cell_of_row _ _ 2 _ _ (0, 0) (heap_alloc_new w11 _)⟩
          have HM11 := Bx.mk ((HM10.out.below hb11).below hba)
          have HD11 := Bx.mk ((HD10.out.step hb11).step hba)
          clear hp11 hb11 hba HM10 HW10 HC10 HD10
          go_wp2_with fail
          refine (rget_any _ a11 n11 c11 w11.heap.size (doneL K lc) ky _ HP11.out HCL.out).mono ?_
          rintro e w12 ⟨a12, n12, c12, rfl, hm12, rfl⟩
          rw [HR2.out.get ky] at hm12
          rw [HR2.out.get ky]
          have HM12 := Bx.mk hm12
          clear hm12 HP11 HCL
          generalize (w11.alloc (.cells #[.pointer none, .int .i64 0, .slice a11 n11 c11] 71)) = w13 at HM11 HM12 HD11 ⊢
          generalize (gtM (doM M lc) ky).isSome = ok
          generalize (gtM (doM M lc) ky).getD [] = vx at HM11 HM12
          have hokk : (ok == ok) = true := by cases ok <;> rfl
          go_wp2_with fail
          refine (same_yes _ _ _ _ _ _ _ _ HM11.out HM12.out).mono ?_
          rintro e w14 ⟨rfl, q14, hw14⟩
          have HD14 : Bx (DT w w14 X2 gd gl gs s2 L2 q (doM M lc)) := ⟨by rw [hw14]; exact HD11.out.step (below_drewN (Below.refl _ _) q14)⟩
          clear hw14 HM11 HM12 HD11
          go_wp2_with fail
          refine (lives_any _).mono ?_
          rintro e w15 ⟨rfl, hb15⟩
          have HF := Bx.mk (bstep HD14.out.low hb15)
          clear hb15
          go_wp2_with fail
          go_ret
          exact ⟨rfl, HF.out⟩
      · rw [h1, h2, h3] at hd7
        have HD7 := Bx.mk hd7
        have hEI : (coE s L q M lc == 0) = false := beq_eq_false_iff_ne.2 hE
        clear hE h1 h2 h3 hd7
        generalize coE s L q M lc = E at hEI ⊢
        go_wp2_with fail
        refine (dt_all w _ X2 gd gl gs s L q M K HD7.out HRP.out hml).mono ?_
        rintro e w8 ⟨a8, n8, c8, rfl, hp8, hb8⟩
        go_wp2_with fail
        refine (psame_any _ _ a8 aw n8 nw c8 cw _ _ _ hp8 (HPW.out.below hb8)).mono ?_
        rintro e w10 ⟨rfl, hb10⟩
        rw [decide_eq_true rfl]
        have HD10 := Bx.mk ((HD7.out.step hb8).step hb10)
        clear hp8 hb8 hb10 HD7 HPW HCT
        go_wp2_with fail
        refine (dt_used w _ X2 gd gl gs s L q M HD10.out).mono ?_
        rintro e w' ⟨rfl, rfl⟩
        go_wp2_with fail
        refine (dt_room w _ X2 gd gl gs s L q M HD10.out HCM.out.next).mono ?_
        rintro e w11 ⟨rfl, hb11⟩
        have HD11 := Bx.mk (HD10.out.step hb11)
        clear hb11 HD10
        go_wp2_with fail
        refine (lives_any _).mono ?_
        rintro e w15 ⟨rfl, hb15⟩
        have HF := Bx.mk (bstep HD11.out.low hb15)
        clear hb15
        go_wp2_with fail
        go_ret
        exact ⟨rfl, HF.out⟩

set_option maxRecDepth 100000 in
theorem lifted (os : Os) (started : os.Started) (H : Type) (enc : TypeId × Value → H) :
    ReturnsInHanded {} Tryz.checked os 6 .any (Rows.storeWholeSpec.pre6 enc Tryz.prog Tryz.f6 Rows.storeWholeRow.domain false) (Rows.storeWholeSpec.post enc Tryz.prog Tryz.f6 false true false false) := by
  refine returnsInHanded_of_change (C := Tryz.checked) own started (by kernel_rfl) Tryz.func6
    (ChangeSpec.witness6 (enc := enc) (C := Tryz.checked) false ⟨#[], #[.int .i64 0, .int .i64 0, .slice none 0 0, .slice none 0 0, .string ⟨#[]⟩], []⟩ 8 (by kernel_rfl) (by kernel_rfl) (by kernel_rfl) (by kernel_rfl)) ?_
  intro W base args ds gs before hval0 hW hcnd _
  have hval : ∀ (j : Nat) t v, Tryz.f6.params[j]? = some t → args[j]? = some v → Value.okWide Tryz.prog W .any base t v := hval0
  have hW' := hW
  obtain ⟨p, q, hA0, hV, rfl, hfz, hnd⟩ := hW
  have hA : DataW.TrodAll enc Tryz.prog W 0 (fun _ => true) true Tryz.f6.params.toList args.toList ds p := hA0
  rw [Tryz.params6] at hA hval
  obtain ⟨v0, vs0, d0, ds0, p0, q0, hargs, rfl, rfl, h0, r0⟩ := trodAll_cons hA
  obtain ⟨v1, vs1, d1, ds1, p1, q1, rfl, rfl, rfl, h1, r1⟩ := trodAll_cons r0
  obtain ⟨v2, vs2, d2, ds2, p2, q2, rfl, rfl, rfl, h2, r2⟩ := trodAll_cons r1
  obtain ⟨v3, vs3, d3, ds3, p3, q3, rfl, rfl, rfl, h3, r3⟩ := trodAll_cons r2
  obtain ⟨v4, vs4, d4, ds4, p4, q4, rfl, rfl, rfl, h4, r4⟩ := trodAll_cons r3
  obtain ⟨rfl, rfl, rfl⟩ := trodAll_nil r4
  obtain rfl : args = #[v0, v1, v2, v3, v4] := by cases args; simp_all
  obtain ⟨rfl, rfl⟩ := trodVars_none hV
  obtain ⟨a2, len2, cap2, rfl⟩ := okWide_slice Tryz.underlying22 (hval 2 22 v2 rfl rfl)
  obtain ⟨a3, len3, cap3, rfl⟩ := okWide_slice Tryz.underlying39 (hval 3 39 v3 rfl rfl)
  have k0 := h0
  have lt0 : ∀ x ∈ p0, x.block < W.heap.size := by obtain ⟨m, hm⟩ := k0; exact DataW.trod_lt m _ _ _ hm
  have k1 := h1
  have lt1 : ∀ x ∈ p1, x.block < W.heap.size := by obtain ⟨m, hm⟩ := k1; exact DataW.trod_lt m _ _ _ hm
  have k2 := h2
  have lt2 : ∀ x ∈ p2, x.block < W.heap.size := by obtain ⟨m, hm⟩ := k2; exact DataW.trod_lt m _ _ _ hm
  have k3 := h3
  have lt3 : ∀ x ∈ p3, x.block < W.heap.size := by obtain ⟨m, hm⟩ := k3; exact DataW.trod_lt m _ _ _ hm
  have k4 := h4
  have lt4 : ∀ x ∈ p4, x.block < W.heap.size := by obtain ⟨m, hm⟩ := k4; exact DataW.trod_lt m _ _ _ hm
  obtain ⟨sectors, rfl, hsectors⟩ := open_i64 (hval 0 3 v0 rfl rfl) h0
  obtain ⟨quota, rfl, hquota⟩ := open_i64 (hval 1 3 v1 rfl rfl) h1
  obtain ⟨l, hl⟩ := open_dos h2
  obtain ⟨c, hc⟩ := open_chs h3
  obtain ⟨key, rfl, hkey⟩ := open_str (hval 4 9 v4 rfl rfl) h4
  clear hA0 hval0
  refine (walk sectors quota a2 len2 cap2 l a3 len3 cap3 c key W hsectors hquota hl hc hkey).mono fun e W' ⟨he, bel⟩ => ?_
  subst he
  exact ⟨_, rfl, _, _, _, [], _, [], hW', trodAll_mk1 (shut_bool Tryz.underlying4 _), (trodAll_cons_mk (Below.trod laidOut (by kernel_rfl) (of_decide_eq_true (by kernel_rfl)) k0 bel lt0) (trodAll_cons_mk (Below.trod laidOut (by kernel_rfl) (of_decide_eq_true (by kernel_rfl)) k1 bel lt1) (trodAll_cons_mk (Below.trod laidOut (by kernel_rfl) (of_decide_eq_true (by kernel_rfl)) k2 bel lt2) (trodAll_cons_mk (Below.trod laidOut (by kernel_rfl) (of_decide_eq_true (by kernel_rfl)) k3 bel lt3) (trodAll_cons_mk (Below.trod laidOut (by kernel_rfl) (of_decide_eq_true (by kernel_rfl)) k4 bel lt4) trodAll_mk0))))), rfl, bel.frame _, fun h => by cases h⟩

theorem over : Rows.storeWholeRow.holds Tryz.pinned (OpenSpec.ofChange Rows.storeWholeSpec) :=
  OpenClaim.holds_of_wide 6 Tryz.f6 rfl rfl rfl rfl rfl rfl rfl ⟨rfl, rfl, rfl, rfl, rfl⟩ rfl rfl rfl rfl rfl (by kernel_rfl) Tryz.func6 (by kernel_rfl)
    (of_decide_eq_true (by kernel_rfl)) (by unfold Func.isWrapper; first | (rw [if_pos (by decide +kernel)]; kernel_rfl) | (rw [if_neg (by decide +kernel)]; exact ⟨rfl, rfl⟩))
    (fun os started H enc _ => lifted os started H enc)

/-- the statement -/
theorem proved : Rows.StoreWholeSaid := over
end Go.Proofs.YtjnjokbdoendkaaGreat.storeWhole
namespace Go.Proofs.YtjnjokbdoendkaaGreat
theorem storeWhole_holds : Rows.StoreWholeSaid := storeWhole.proved
#print axioms storeWhole_holds
end Go.Proofs.YtjnjokbdoendkaaGreat
