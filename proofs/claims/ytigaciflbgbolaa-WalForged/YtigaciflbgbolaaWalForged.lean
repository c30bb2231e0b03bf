/- For every list of calls, every uint64, every int and every list of bools the law WalForged returns true and the lists read as they did (P10.4): texts that are themselves frames, or sectors of such, are texts and nothing else. No condition. -/
import Derived.Test.YtigaciflbgbolaaRows
import Derived.Test.YtigaciflbgbolaaForge10
import Derived.Test.YtigaciflbgbolaaCut
import Derived.WalkKit
import Derived.ProofKit
import Derived.OpenShut
import Derived.ShutString
import Derived.ChangeOld
import Derived.Below
namespace Go.Proofs.Ytigaciflbgbolaa.walForged
open Go.ChangeShapes Go.WideShapes Go.ChangeAt Go.RowKit
open Go.ChangeMaps (open_string shut_string)
set_option linter.unusedVariables false

theorem own : ownKnob Try.prog.godebug = none := by kernel_rfl
theorem laidOut : laidOutB Try.prog = true := by kernel_rfl


set_option maxRecDepth 100000 in
set_option maxHeartbeats 4000000 in
theorem walk (a0 : Option Addr) (len0 cap0 : Nat) (L : List DoM) (sq : Int) (nn : Int) (a3 : Option Addr) (len3 cap3 : Nat) (K : List Bool) (w : World) (hL : Dos w a0 len0 cap0 L) (hsq : U64 sq) (hnn : I64 nn) (hK : Bls w a3 len3 cap3 K) :
    Calls Try.prog 7 #[.slice a0 len0 cap0, .int .u64 sq, .int .i64 nn, .slice a3 len3 cap3] w fun e w' => e = .returned (.bool true) ∧ Below w.heap.size w w' := by
  have HL : Bx (Dos w a0 len0 cap0 L) := ⟨hL⟩
  have HKP : Bx (Bls w a3 len3 cap3 K) := ⟨hK⟩
  have hsq : 0 ≤ sq ∧ sq ≤ 18446744073709551615 := hsq
  clear hL hK
  go_enter Try.func7, Try.ntmps7
  go_wp2_with fail
  refine (dd_new w _ 300 (Below.refl _ _) (by decide) (by decide)).mono ?_
  rintro e w1 ⟨gd, rfl, hD1, hb1⟩
  have HRN := rest_new 300
  have hF : (dnew 300).F.length = 300 := by simp [dnew]
  have hrd := HRN.rd hD1.ok
  obtain ⟨q1, q2⟩ := wip_rest HRN
  have hOO : (dnew 300).O.length ≤ 900000 := by simp [dnew]
  go_wp2_with fail
  refine (dd_open w _ _ gd (dnew 300) [] hD1 rfl hOO hrd q1).mono ?_
  rintro e w2 ⟨gl, rfl, hDL2, _⟩
  rw [q2] at hDL2
  have HDL2 : Bx _ := ⟨hDL2⟩
  have HRB : Bx (Rest (dnew 300) [] ∧ (dnew 300).armed = false ∧ (dnew 300).F.length = 300) := ⟨HRN, rfl, hF⟩
  clear hDL2 q1 q2 hrd HRN hF hOO hD1 hb1
  generalize dnew 300 = s0' at HDL2 HRB
  go_wp2_with fail
  refine (few_any a0 len0 cap0 L w _ HL.out HDL2.out.low).mono ?_
  rintro e w3 ⟨⟨m, rfl, hm40, Q, hM⟩, hb3⟩
  have HM : Bx _ := ⟨hM⟩
  have hmc := hM.le_cap
  have hmx := hM.cap_le
  unfold maxLen at hmx
  have HD3 : Bx _ := ⟨HDL2.out.step hb3⟩
  clear hM hb3 HDL2 HL
  go_wp2
  go_loopw [13, 14] (fun v i wr => ∃ (k : Nat) (s : DS) (LL : LS) (W : List (List Int)) (X : Nat → Prop), k ≤ m ∧ i = .int .i64 (k : Int) ∧ W.length ≤ k ∧ Bx (k < m → Rest s W ∧ LL = lgs W ∧ s.armed = false) ∧ Bx (Fin10 300 s W) ∧ Bx (DL w wr X gd gl s LL) ∧ Bx (TL wr X v W ∧ ∀ j, X j → w.heap.size ≤ j)) (fun _ i _ => m - (intOf i).toNat)
  case atStart => exact ⟨0, s0', lgs [], [], fun _ => False, Nat.zero_le _, rfl, Nat.le_refl _, ⟨fun _ => ⟨HRB.out.1, rfl, HRB.out.2.1⟩⟩, ⟨Fin10.rest HRB.out.1 HRB.out.2.2 (.inl rfl)⟩, HD3, ⟨TL.nil _ _, fun j hj => hj.elim⟩⟩
  case round =>
    clear HRB HD3
    obtain ⟨k, s, LL, W, X, hk, rfl, hWk, HRS, HFI, HD, HTW⟩ := hrel
    obtain ⟨vW, hvW⟩ : ∃ vW, vW = u13 := ⟨_, rfl⟩
    subst hvW
    by_cases hlt : k < m
    · have hkI : (k : Int) < (m : Int) := by omega
      obtain ⟨hr, rfl, harm⟩ := HRS.out hlt
      have HR : Bx (Rest s W ∧ s.armed = false ∧ s.F.length = 300) := ⟨hr, harm, HFI.out.1⟩
      clear hr harm HRS HFI
      obtain ⟨b, off, a2, l2, c2, a4, l4, c4, rfl, z0, z1, z2, z3, z4, hdv, hbw⟩ := HM.out.at HD.out.low k hlt
      have HDV : Bx _ := ⟨hdv⟩
      generalize Q.getD k doZ = d at z0 z1 z2 HDV
      have HZ : Bx (∀ W', Below w.heap.size w W' → W'.cell? ⟨b, off + k * 5, none⟩ = some (.int .i64 d.kind) ∧ W'.cell? ⟨b, off + k * 5 + 1, none⟩ = some (.int .i64 d.n) ∧ W'.cell? ⟨b, off + k * 5 + 2, none⟩ = some (.int .i64 d.long) ∧ W'.cell? ⟨b, off + k * 5 + 3, none⟩ = some (.slice a2 l2 c2) ∧ W'.cell? ⟨b, off + k * 5 + 4, none⟩ = some (.slice a4 l4 c4)) := ⟨fun W' hW => by
        have hlw := HD.out.low
        have e : ∀ j, W'.cell? ⟨b, j, none⟩ = wr.cell? ⟨b, j, none⟩ := fun j => (hW.cell hbw).trans (hlw.cell hbw).symm
        exact ⟨(e _).trans z0, (e _).trans z1, (e _).trans z2, (e _).trans z3, (e _).trans z4⟩⟩
      clear hdv hbw z0 z1 z2 z4
      have hsq8 : 0 ≤ sq % 8 + 1 ∧ sq % 8 + 1 ≤ 8 := by omega
      have hbt0 := HDV.out.b.below HD.out.low
      go_wp2_with fail
      refine (cut_any a2 l2 c2 40 d.b _ hbt0 (by decide)).mono ?_
      rintro e w' ⟨⟨mb, rfl, hmb⟩, rfl⟩
      have hmb4 : mb ≤ 40 := by have := hmb.len_eq; rw [List.length_take] at this; omega
      clear hbt0 z3
      go_wp2_with fail
      refine (refput8_any (sq % 8 + 1) a2 mb c2 (d.b.take 40) _ (by omega) (by omega) hmb).mono ?_
      rintro e w4 ⟨v4, rfl, hown4, hb4⟩
      have hIB := ptL_byt (sq % 8 + 1) (d.b.take 40) hmb.byt
      have hIL : (ptL (sq % 8 + 1) (d.b.take 40)).length ≤ 60 := by
        unfold ptL
        split
        · rw [frmL_len, hmb.len_eq]; omega
        · exact Nat.zero_le _
      obtain ⟨a5, c5, rfl, hm5⟩ := Bts.of_owns hown4 hIB
      generalize ptE (sq % 8 + 1) (d.b.take 40).length = E5
      generalize ptL (sq % 8 + 1) (d.b.take 40) = IL at hown4 hIB hIL hm5 ⊢
      obtain ⟨il, HIL⟩ : ∃ il, Bx (il = IL.length) := ⟨_, ⟨rfl⟩⟩
      rw [← HIL.out] at hown4 hIL hm5 ⊢
      have HB4 : Bx _ := ⟨hb4⟩
      clear hown4 hmb hb4
      obtain ⟨z, hz⟩ : ∃ z : Nat, 64 * ((k : Int) % 3) + 48 = (z : Int) := ⟨(64 * ((k : Int) % 3) + 48).toNat, by omega⟩
      have hz1 : z ≤ 176 := by omega
      have HZL : Bx (64 * ((k : Int) % 3) + 48 = (z : Int)) := ⟨hz⟩
      clear hz
      go_upto_region 12 with (first
        | (refine wpList_make_bytes rfl (.tmp 55) (.tmp 55) rfl z (by show Value.int .i64 (64 * ((k : Int) % 3) + 48) = _; rw [HZL.out]) (by show Value.int .i64 (64 * ((k : Int) % 3) + 48) = _; rw [HZL.out]) (by omega) ?_; intro v6 w6 H6; have hown6 := H6.out.1; have hs6 := H6.out.2.size; have hm6 := hm5.below H6.out.2; clear hm5)
        | (at_builtin; refine wpList_append_bts rfl (.tmp 56) (.tmp 57) rfl w4.heap.size z _ (List.replicate z 0) rfl hown6 a5 il c5 IL rfl hm6 (by omega) hs6 ?_; intro v7 w7 hown7 hb7 _; clear hm6 hown6 hs6))
      have HB7 : Bx (Below wr.heap.size wr w7) := ⟨bstep HB4.out (H6.out.2.trans hb7)⟩
      have hN4 : wr.heap.size ≤ w4.heap.size := HB4.out.size
      have hown7' := owns_base hown7 hN4
      clear hb7 H6 HB4 hown7 hN4
      try simp only [Act.put, List.setIfInBounds_toArray, List.set_cons_zero, List.set_cons_succ]
      obtain ⟨z0, z1, z2, z3, z4⟩ := HZ.out w7 (bstep HD.out.low HB7.out)
      have hdv7 := HDV.out.below (bstep HD.out.low HB7.out)
      go_wp2_with fail
      refine (text_any d a2 l2 c2 a4 l4 c4 _ hdv7).mono ?_
      rintro e w8 ⟨v8, rfl, hown8, hb8⟩
      have hTB := txt_byt HDV.out.b.byt
      have hTL := txt_len d
      obtain ⟨a8, c8, rfl, hm8⟩ := Bts.of_owns hown8 hTB
      have hown7b := owns_below hown7' hb8
      have HB8 : Bx (Below wr.heap.size wr w8) := ⟨bstep HB7.out hb8⟩
      have hs8 := HB8.out.size
      generalize txt d = td at hm8 hTB hTL ⊢
      obtain ⟨tl, HTL⟩ : ∃ tl, Bx (tl = td.length) := ⟨_, ⟨rfl⟩⟩
      rw [← HTL.out] at hTL hm8 ⊢
      clear z0 z1 z2 z3 z4 hdv7 hown8 hb8 hown7' HB7
      go_upto_region 13 with (at_builtin; refine wpList_append_bts rfl (.tmp 59) (.tmp 64) rfl wr.heap.size (z + il) _ (List.replicate z 0 ++ IL) rfl hown7b a8 tl c8 td rfl hm8 (by omega) hs8 ?_; intro v9 w9 hown9 hb9 _)
      have hTTB : Byt (List.replicate z 0 ++ IL ++ td) := ((show Byt (List.replicate z 0) from fun c hc => by rw [List.eq_of_mem_replicate hc]; decide).append hIB).append hTB
      obtain ⟨a9, c9, rfl, hm9⟩ := Bts.of_owns hown9 hTTB
      have HF9 : Bx (∀ p, a9 = some p → wr.heap.size ≤ p.block ∧ p.block < w9.heap.size) := ⟨fun p e => own_ge hown9 p e⟩
      have HB9 : Bx (Below wr.heap.size wr w9) := ⟨HB8.out.trans hb9⟩
      generalize List.replicate z 0 ++ IL ++ td = TT at hm9 hTTB
      generalize z + il + tl = tt at hm9 ⊢
      clear hown9 hb9 hown7b hm8 hTB hTL hs8 hIB hIL HB8 HTL HIL
      try simp only [Act.put, List.setIfInBounds_toArray, List.set_cons_zero, List.set_cons_succ]
      -- all that is new is the law's
      have hX1 : ∃ X1 : Nat → Prop, DL w w9 X1 gd gl s (lgs W) ∧ TL w9 X1 vW W ∧ (∀ j, X1 j → w.heap.size ≤ j) ∧ (0 < tt → ∀ p, a9 = some p → X1 p.block ∧ vW.ownBlock ≠ some p.block) := by
        have hlw := HD.out.low.size
        refine ⟨fun j => X j ∨ (wr.heap.size ≤ j ∧ j < w9.heap.size), HD.out.other (Kept.of_below HB9.out) HTW.out.2 (fun j hj => hj), HTW.out.1.keep (fun j hj _ => HB9.out.block j hj) HB9.out.size (fun j _ hj => .inl hj), fun j hj => ?_, fun hp p e => ⟨.inr (HF9.out p e), fun e2 => ?_⟩⟩
        · rcases hj with h | h
          · exact HTW.out.2 j h
          · omega
        · have h1 := HD.out.xlt _ (HTW.out.1.ob _ e2)
          have h2 := (HF9.out p e).1
          omega
      obtain ⟨X1, hDL1, hTL1, hGE1, hFR1⟩ := hX1
      have HD1 : Bx _ := ⟨hDL1⟩
      have HT1 : Bx _ := ⟨hTL1⟩
      have HGE : Bx _ := ⟨hGE1⟩
      have HFR : Bx _ := ⟨hFR1⟩
      have HTTB : Bx _ := ⟨hTTB⟩
      have HM9 : Bx _ := ⟨hm9⟩
      clear hDL1 hTL1 hGE1 hFR1 hTTB hm9 HD HTW HF9 HB9
      have HOO : Bx (s.O.length ≤ 900000) := ⟨by rw [HR.out.1.o]; exact Nat.zero_le _⟩
      by_cases hlast : k + 1 = m
      · have hl1 : ((k : Int) == (m : Int) - 1) = true := beq_iff_eq.2 (by omega)
        have hlb : leastV nn 0 60 ≤ 9223372036854775807 := by have := least_bd nn 0 60 (by decide); omega
        go_wp2_with fail
        refine (least_any _ _ _ _).mono ?_
        rintro e w' ⟨rfl, rfl⟩
        go_wp2_with fail
        refine (dl_arm w _ X1 gd gl s (lgs W) _ HD1.out hlb).mono ?_
        rintro e w10 ⟨rfl, hD10, hx10⟩
        have hR10 := HR.out.1.ar (leastV nn 0 60)
        obtain ⟨f1, f2, _⟩ := ar_same s (leastV nn 0 60)
        have HR10 : Bx (Rest (s.ar (leastV nn 0 60)) W ∧ (s.ar (leastV nn 0 60)).F.length = 300) := ⟨hR10, by rw [f1]; exact HR.out.2.2⟩
        have HO10 : Bx ((s.ar (leastV nn 0 60)).O.length ≤ 900000) := ⟨by rw [f2]; exact HOO.out⟩
        have HD10 : Bx _ := ⟨hD10⟩
        have HM10 : Bx (Bts w10 a9 tt c9 TT) := ⟨HM9.out.keep (fun hp p e => hx10.2 _ (HFR.out hp p e).1) hx10.1⟩
        have HT10 : Bx (TL w10 X1 vW W) := ⟨HT1.out.keep (fun j _ hj => hx10.2 j hj) hx10.1 (fun _ _ h => h)⟩
        clear hD10 hx10 hR10 f1 f2 HD1 HT1 HM9 HOO HR
        generalize s.arE (leastV nn 0 60) = E10
        generalize s.ar (leastV nn 0 60) = s10 at HR10 HO10 HD10
        go_wp2_with fail
        refine (dl_appendX w _ X1 gd gl s10 (lgs W) a9 tt c9 TT HD10.out HM10.out (fun hp p e => (HFR.out hp p e).1) HO10.out).mono ?_
        rintro e w11 ⟨rfl, hD11, hx11⟩
        have HFI : Bx (Fin10 300 (apS s10 (lgs W) TT) (W ++ [TT])) := ⟨last_any HR10.out.1 HR10.out.2 HTTB.out⟩
        have HD11 : Bx _ := ⟨hD11⟩
        have HM11 : Bx (Bts w11 a9 tt c9 TT) := ⟨HM10.out.keep (fun hp p e => hx11.2 _ (HFR.out hp p e).1) hx11.1⟩
        have HT11 : Bx (TL w11 X1 vW W) := ⟨HT10.out.keep (fun j _ hj => hx11.2 j hj) hx11.1 (fun _ _ h => h)⟩
        clear hD11 hx11 HD10 HM10 HT10 HR10 HO10
        generalize apS s10 (lgs W) TT = s11 at HFI HD11
        generalize apL s10 (lgs W) TT = L11 at HD11
        have HNX : Bx (k + 1 < m → Rest s11 (W ++ [TT]) ∧ L11 = lgs (W ++ [TT]) ∧ s11.armed = false) := ⟨fun hh => by omega⟩
        by_cases hE : apE s10 (lgs W) TT = 0
        · rw [hE]
          obtain ⟨xs, hown, HTA⟩ := HT11.out.open
          obtain ⟨q, HQ⟩ : ∃ q, Bx (q = W.length) := ⟨_, ⟨rfl⟩⟩
          rw [← HQ.out] at hown hWk
          obtain ⟨i0, hi, hz0, hz1', hz2⟩ := info_parts Try.info22
          clear HT11
          go_wp2_with (at_builtin; refine wpList_append_lies _ rfl (.tmp 79) (.tmp 81) 60 rfl 0 38 i0 (.slice none 0 0) 1 24 Try.underlying60 hi hz0 hz1' hz2 rfl (by decide) _ q xs rfl (hown.alloc _) ⟨w11.heap.size, 0, none⟩ 1 1 [.slice a9 tt c9] rfl rfl (cell_one_new _ _ _) (by simp [Value.oneCell']) (by decide) (by unfold maxLen; omega) (by omega) (Nat.zero_le _) _ rfl ?_; intro g12 cap12 w12 hown12 hgr12 hl12 _)
          obtain ⟨X2, hD12, hT12, hG12⟩ := want_more HD11.out HGE.out HTA.out HQ.out HM11.out HFR.out hown12 hgr12 hl12
          have HD12 : Bx _ := ⟨hD12⟩
          have HTG : Bx (TL w12 X2 (.slice (some ⟨g12, 0, none⟩) (q + 1) cap12) (W ++ [TT]) ∧ ∀ j, X2 j → w.heap.size ≤ j) := ⟨hT12, hG12⟩
          have HWL : Bx ((W ++ [TT]).length ≤ k + 1) := ⟨by rw [List.length_append, ← HQ.out]; show q + 1 ≤ _; omega⟩
          clear hown12 hgr12 hl12 hown hi hz0 hz1' hz2 hD12 hT12 hG12 HTA HD11 HM11
          go_roundw
          case rel => exact ⟨k + 1, _, _, _, _, by omega, by go_num, HWL.out, HNX, HFI, HD12, HTG⟩
          case measure => simp [intOf]; omega
        · have heb : (apE s10 (lgs W) TT == 0) = false := by simpa using hE
          generalize apE s10 (lgs W) TT = E11 at heb ⊢
          clear hE
          obtain ⟨xs, hown, HTA⟩ := HT11.out.open
          obtain ⟨q, HQ⟩ : ∃ q, Bx (q = W.length) := ⟨_, ⟨rfl⟩⟩
          rw [← HQ.out] at hown hWk
          obtain ⟨i0, hi, hz0, hz1', hz2⟩ := info_parts Try.info22
          clear HT11
          go_wp2_with (at_builtin; refine wpList_append_lies _ rfl (.tmp 88) (.tmp 90) 60 rfl 0 38 i0 (.slice none 0 0) 1 24 Try.underlying60 hi hz0 hz1' hz2 rfl (by decide) _ q xs rfl (hown.alloc _) ⟨w11.heap.size, 0, none⟩ 1 1 [.slice a9 tt c9] rfl rfl (cell_one_new _ _ _) (by simp [Value.oneCell']) (by decide) (by unfold maxLen; omega) (by omega) (Nat.zero_le _) _ rfl ?_; intro g12 cap12 w12 hown12 hgr12 hl12 _)
          obtain ⟨X2, hD12, hT12, hG12⟩ := want_more HD11.out HGE.out HTA.out HQ.out HM11.out HFR.out hown12 hgr12 hl12
          have HD12 : Bx _ := ⟨hD12⟩
          have HTG : Bx (TL w12 X2 (.slice (some ⟨g12, 0, none⟩) (q + 1) cap12) (W ++ [TT]) ∧ ∀ j, X2 j → w.heap.size ≤ j) := ⟨hT12, hG12⟩
          have HWL : Bx ((W ++ [TT]).length ≤ k + 1) := ⟨by rw [List.length_append, ← HQ.out]; show q + 1 ≤ _; omega⟩
          clear hown12 hgr12 hl12 hown hi hz0 hz1' hz2 hD12 hT12 hG12 HTA HD11 HM11
          go_roundw
          case rel => exact ⟨k + 1, _, _, _, _, by omega, by go_num, HWL.out, HNX, HFI, HD12, HTG⟩
          case measure => simp [intOf]; omega
      · have hl1 : ((k : Int) == (m : Int) - 1) = false := beq_eq_false_iff_ne.2 (by omega)
        obtain ⟨p1, p2, p3⟩ := ap_cases HR.out.1 HTTB.out
        have hX : ∃ s11 E11, apS s (lgs W) TT = s11 ∧ apE s (lgs W) TT = E11 ∧ s11.armed = false ∧ s11.F.length = 300 ∧ ((E11 = 0 ∧ Rest s11 (W ++ [TT]) ∧ apL s (lgs W) TT = lgs (W ++ [TT])) ∨ ((E11 = 5 ∨ E11 = 11) ∧ Rest s11 W ∧ apL s (lgs W) TT = lgs W)) := by
          refine ⟨_, _, rfl, rfl, p1 HR.out.2.1, by rw [p2]; exact HR.out.2.2, ?_⟩
          rcases p3 with ⟨e1, e2, e3, _⟩ | ⟨_, e2, _⟩ | ⟨e1, e2, e3, _⟩
          · exact .inl ⟨e1, e2, e3⟩
          · rw [HR.out.2.1] at e2; cases e2
          · exact .inr ⟨e1, by rw [e2]; exact HR.out.1, e3⟩
        obtain ⟨s11, E11, es, ee, ha11, hf11, hcase⟩ := hX
        clear p1 p2 p3
        go_wp2_with fail
        refine (dl_appendX w _ X1 gd gl s (lgs W) a9 tt c9 TT HD1.out HM9.out (fun hp p e => (HFR.out hp p e).1) HOO.out).mono ?_
        rintro e w11 ⟨rfl, hD11, hx11⟩
        rw [es] at hD11
        rw [ee]
        have HM11 : Bx (Bts w11 a9 tt c9 TT) := ⟨HM9.out.keep (fun hp p e => hx11.2 _ (HFR.out hp p e).1) hx11.1⟩
        have HT11 : Bx (TL w11 X1 vW W) := ⟨HT1.out.keep (fun j _ hj => hx11.2 j hj) hx11.1 (fun _ _ h => h)⟩
        rcases hcase with ⟨hE, hr11, hl11⟩ | ⟨hE, hr11, hl11⟩
        · rw [hl11] at hD11
          have HFI : Bx (Fin10 300 s11 (W ++ [TT])) := ⟨Fin10.rest hr11 hf11 (.inl rfl)⟩
          obtain ⟨L11, hL11⟩ : ∃ L11, L11 = lgs (W ++ [TT]) := ⟨_, rfl⟩
          rw [← hL11] at hD11
          have HNX : Bx (k + 1 < m → Rest s11 (W ++ [TT]) ∧ L11 = lgs (W ++ [TT]) ∧ s11.armed = false) := ⟨fun _ => ⟨hr11, hL11, ha11⟩⟩
          have HD11 : Bx _ := ⟨hD11⟩
          clear hD11 hx11 HD1 HM9 HT1 HOO HR es ee ha11 hf11 hr11 hl11 hL11
          rw [hE]
          clear hE
          obtain ⟨xs, hown, HTA⟩ := HT11.out.open
          obtain ⟨q, HQ⟩ : ∃ q, Bx (q = W.length) := ⟨_, ⟨rfl⟩⟩
          rw [← HQ.out] at hown hWk
          obtain ⟨i0, hi, hz0, hz1', hz2⟩ := info_parts Try.info22
          clear HT11
          go_wp2_with (at_builtin; refine wpList_append_lies _ rfl (.tmp 79) (.tmp 81) 60 rfl 0 38 i0 (.slice none 0 0) 1 24 Try.underlying60 hi hz0 hz1' hz2 rfl (by decide) _ q xs rfl (hown.alloc _) ⟨w11.heap.size, 0, none⟩ 1 1 [.slice a9 tt c9] rfl rfl (cell_one_new _ _ _) (by simp [Value.oneCell']) (by decide) (by unfold maxLen; omega) (by omega) (Nat.zero_le _) _ rfl ?_; intro g12 cap12 w12 hown12 hgr12 hl12 _)
          obtain ⟨X2, hD12, hT12, hG12⟩ := want_more HD11.out HGE.out HTA.out HQ.out HM11.out HFR.out hown12 hgr12 hl12
          have HD12 : Bx _ := ⟨hD12⟩
          have HTG : Bx (TL w12 X2 (.slice (some ⟨g12, 0, none⟩) (q + 1) cap12) (W ++ [TT]) ∧ ∀ j, X2 j → w.heap.size ≤ j) := ⟨hT12, hG12⟩
          have HWL : Bx ((W ++ [TT]).length ≤ k + 1) := ⟨by rw [List.length_append, ← HQ.out]; show q + 1 ≤ _; omega⟩
          clear hown12 hgr12 hl12 hown hi hz0 hz1' hz2 hD12 hT12 hG12 HTA HD11 HM11
          go_roundw
          case rel => exact ⟨k + 1, _, _, _, _, by omega, by go_num, HWL.out, HNX, HFI, HD12, HTG⟩
          case measure => simp [intOf]; omega
        · rw [hl11] at hD11
          have HFI : Bx (Fin10 300 s11 W) := ⟨Fin10.rest hr11 hf11 (.inl rfl)⟩
          obtain ⟨L11, hL11⟩ : ∃ L11, L11 = lgs W := ⟨_, rfl⟩
          rw [← hL11] at hD11
          have HNX : Bx (k + 1 < m → Rest s11 W ∧ L11 = lgs W ∧ s11.armed = false) := ⟨fun _ => ⟨hr11, hL11, ha11⟩⟩
          have HD11 : Bx _ := ⟨hD11⟩
          have HTG : Bx (TL w11 X1 vW W ∧ ∀ j, X1 j → w.heap.size ≤ j) := ⟨HT11.out, HGE.out⟩
          have heb : (E11 == 0) = false := by rcases hE with h | h <;> rw [h] <;> decide
          clear hD11 hx11 HD1 HM9 HT1 HOO HR es ee ha11 hf11 hr11 hl11 hE HT11 HM11 hL11
          go_wp2
          go_roundw
          case rel => exact ⟨k + 1, _, _, _, _, by omega, by go_num, by omega, HNX, HFI, HD11, HTG⟩
          case measure => simp [intOf]; omega
    · have hkI : ¬ (k : Int) < (m : Int) := by omega
      have hKr := HKP.out.below HD.out.low
      have HDD : Bx _ := ⟨HD.out.dd⟩
      have HOC : Bx (s.O.length ≤ 1000000) := ⟨by have := HFI.out.2.1; omega⟩
      clear HD HRS HM
      go_wp2_with fail
      refine (keep_any _ _ _ _ a3 len3 cap3 K _ hKr).mono ?_
      rintro e w4 ⟨⟨mk, rfl, hmk, hB4⟩, hb4⟩
      have hml : mk ≤ len3 := by have h1 := hB4.len_eq; have h2 := HKP.out.len_eq; rw [List.length_take] at h1; omega
      replace HDD : Bx _ := ⟨HDD.out.step hb4⟩
      have HT4 : Bx _ := ⟨HTW.out.1.below hb4⟩
      clear hb4 hKr
      go_wp2_with fail
      refine (dd_crash w _ X gd s a3 mk cap3 _ HDD.out hB4 (bls_far HKP.out hml) HOC.out).mono ?_
      rintro e w5 ⟨rfl, hD5, hx5⟩
      obtain ⟨T, hLT, hWT⟩ := HFI.out.left (K.take 400)
      have HT5 : Bx (TL w5 X vW W) := ⟨HT4.out.keep (fun j _ hj => hx5.2 j hj) hx5.1 (fun _ _ h => h)⟩
      replace HDD : Bx _ := ⟨hD5⟩
      obtain ⟨o1, o2, o3, o4, o5, o6, o7⟩ := hLT.opened hD5.ok
      have HRS : Bx _ := ⟨And.intro o5 (And.intro o6 o7)⟩
      clear hD5 hx5 hB4 hml hLT HOC HFI HT4 o5 o6 o7
      generalize s.cr (K.take 400) = s5 at HDD o1 o2 o3 o4 HRS
      go_wp2_with fail
      refine (dd_open w _ X gd s5 T HDD.out o1 o2 o3 o4).mono ?_
      rintro e w6 ⟨gq, rfl, hD6, hx6⟩
      have HT6 : Bx (TL w6 X vW W) := ⟨HT5.out.keep (fun j _ hj => hx6.2 j hj) hx6.1 (fun _ _ h => h)⟩
      have HD6 : Bx _ := ⟨hD6⟩
      clear hD6 hx6 HDD HT5 o1 o2 o3 o4
      generalize s5.wipS (FrS 0 T).length = s6 at HD6 HRS
      go_wp2_with fail
      refine (dl_texts w _ X gd gq s6 (lgs T) HD6.out).mono ?_
      rintro e w7 ⟨v7, rfl, hT7, hb7⟩
      obtain ⟨a7, c7, hv7, hx7⟩ := hT7.txs
      subst hv7
      have HX7 : Bx _ := ⟨hx7⟩
      have HD7 : Bx _ := ⟨HD6.out.step hb7⟩
      have hT7w := HT6.out.below hb7
      obtain ⟨aw, cw, hvw, hxw⟩ := hT7w.txs
      have hwc := hxw.le_cap
      have hwm := hxw.cap_le
      unfold maxLen at hwm
      have htw : T.length ≤ W.length ∧ W.length ≤ T.length + 1 := by
        rcases hWT with h | ⟨x, h⟩
        · rw [h]; omega
        · rw [h, List.length_append]; show _ ≤ _ + 1 ∧ _ + 1 ≤ _; omega
      have htk : W.take T.length = T := by
        rcases hWT with h | ⟨x, h⟩
        · rw [h]; exact List.take_length
        · rw [h]; exact List.take_left
      have hXT := hxw.take T.length htw.1
      rw [htk] at hXT
      have HXT : Bx (Txs w7 aw T.length cw T) := ⟨hXT⟩
      subst hvw
      have HXN : Bx (aw = none → W.length = 0 ∧ cw = 0) := ⟨fun e => by subst e; exact hT7w.z0⟩
      have hWL4 : W.length ≤ 40 := by omega
      have e1 : (lgs T).T.length = T.length := rfl
      have HX7' : Bx (Txs w7 a7 T.length c7 T) := HX7
      rw [e1]
      obtain ⟨tn, HTN⟩ : ∃ tn, Bx (tn = T.length) := ⟨_, ⟨rfl⟩⟩
      obtain ⟨wn, HWN⟩ : ∃ wn, Bx (wn = W.length) := ⟨_, ⟨rfl⟩⟩
      rw [← HTN.out] at HXT HX7' htw ⊢
      rw [← HWN.out] at htw hwc hWL4 HXN ⊢
      have g1 : decide (tn ≤ wn) = true := decide_eq_true htw.1
      have g2 : decide ((wn : Int) ≤ (tn : Int) + 1) = true := decide_eq_true (by omega)
      have g3 : (tn : Int) ≤ (cw : Int) := by omega
      have htn4 : tn ≤ 40 := by omega
      -- what is put behind at last
      have HON : Bx (apE s6 (lgs T) [120] ≠ 14) := ⟨ap_on HRS.out.1 (by intro c hc; simp only [List.mem_singleton] at hc; omega) HRS.out.2.2⟩
      have HOO : Bx (s6.O.length ≤ 900000) := ⟨by rw [HRS.out.1.o]; exact Nat.zero_le _⟩
      clear hT7 hb7 hx7 HX7 HD6 HT6 hT7w hxw hXT htk hWT htw HRS HTW e1
      cases aw with
      | none =>
        obtain ⟨h1, h2⟩ := HXN.out rfl
        obtain rfl : cw = 0 := h2
        obtain rfl : wn = 0 := h1
        obtain rfl : tn = 0 := by omega
        clear HXN g1 g2 g3 htn4
        go_wp2_with fail
        refine (tsame_yes _ _ _ _ _ _ _ HX7'.out HXT.out).mono ?_
        rintro e w8 ⟨rfl, q8, hq8⟩
        have HD8 : Bx (DL w w8 X gd gq s6 (lgs T)) := ⟨by rw [hq8]; exact HD7.out.drewN q8⟩
        clear hq8 HX7' HXT HD7
        have hm : Bts (w8.alloc (.cells #[.int .u8 120] 5 (1, 2))) (some ⟨w8.heap.size, 0, none⟩) 1 1 [120] := bts_const w8 [120] (by intro c hc; simp only [List.mem_singleton] at hc; omega) (1, 2) (by decide)
        have hcv : (convert 38 38 (.slice (some ⟨w8.heap.size, 0, none⟩) 1 1)).run Try.prog (w8.alloc (.cells #[.int .u8 120] 5)) = .ok (.slice (some ⟨w8.heap.size, 0, none⟩) 1 1) (w8.alloc (.cells #[.int .u8 120] 5 (1, 2))) := Lib.run_convert_bytes_const w8 _ _ _ 1 1 Try.underlying38 Try.underlying5
        have hba : Below w8.heap.size w8 (w8.alloc (.cells #[.int .u8 120] 5 (1, 2))) := (Below.refl _ _).alloc (Nat.le_refl _) _
        generalize w8.alloc (.cells #[.int .u8 120] 5 (1, 2)) = w9 at hm hcv hba
        have HM9 : Bx _ := ⟨hm⟩
        have HBA : Bx _ := ⟨hba⟩
        clear hm hba
        go_wp2_with fail
        refine (dl_append w w8 _ X gd gq s6 (lgs T) _ 1 1 [120] HD8.out HBA.out HM9.out (fun _ p e => by cases e; exact Nat.le_refl _) HOO.out).mono ?_
        rintro e w10 ⟨rfl, hD10, _⟩
        have HLW : Bx _ := ⟨hD10.low⟩
        have heb : (apE s6 (lgs T) [120] != 14) = true := by have := HON.out; simpa using this
        clear hD10 hcv HD8 HM9 HBA HOO HON
        generalize apE s6 (lgs T) [120] = E10 at heb ⊢
        go_wp2_with fail
        refine (lives_any _).mono ?_
        rintro e w11 ⟨rfl, hb11⟩
        have HLW11 : Bx (Below w.heap.size w w11) := ⟨bstep HLW.out hb11⟩
        clear hb11 HLW
        go_wp2
        go_ret
        exact ⟨rfl, HLW11.out⟩
      | some ad =>
        clear HXN
        go_wp2_with fail
        refine (tsame_yes _ _ _ _ _ _ _ HX7'.out HXT.out).mono ?_
        rintro e w8 ⟨rfl, q8, hq8⟩
        have HD8 : Bx (DL w w8 X gd gq s6 (lgs T)) := ⟨by rw [hq8]; exact HD7.out.drewN q8⟩
        clear hq8 HX7' HXT HD7
        have hm : Bts (w8.alloc (.cells #[.int .u8 120] 5 (1, 2))) (some ⟨w8.heap.size, 0, none⟩) 1 1 [120] := bts_const w8 [120] (by intro c hc; simp only [List.mem_singleton] at hc; omega) (1, 2) (by decide)
        have hcv : (convert 38 38 (.slice (some ⟨w8.heap.size, 0, none⟩) 1 1)).run Try.prog (w8.alloc (.cells #[.int .u8 120] 5)) = .ok (.slice (some ⟨w8.heap.size, 0, none⟩) 1 1) (w8.alloc (.cells #[.int .u8 120] 5 (1, 2))) := Lib.run_convert_bytes_const w8 _ _ _ 1 1 Try.underlying38 Try.underlying5
        have hba : Below w8.heap.size w8 (w8.alloc (.cells #[.int .u8 120] 5 (1, 2))) := (Below.refl _ _).alloc (Nat.le_refl _) _
        generalize w8.alloc (.cells #[.int .u8 120] 5 (1, 2)) = w9 at hm hcv hba
        have HM9 : Bx _ := ⟨hm⟩
        have HBA : Bx _ := ⟨hba⟩
        clear hm hba
        go_wp2_with fail
        refine (dl_append w w8 _ X gd gq s6 (lgs T) _ 1 1 [120] HD8.out HBA.out HM9.out (fun _ p e => by cases e; exact Nat.le_refl _) HOO.out).mono ?_
        rintro e w10 ⟨rfl, hD10, _⟩
        have HLW : Bx _ := ⟨hD10.low⟩
        have heb : (apE s6 (lgs T) [120] != 14) = true := by have := HON.out; simpa using this
        clear hD10 hcv HD8 HM9 HBA HOO HON
        generalize apE s6 (lgs T) [120] = E10 at heb ⊢
        go_wp2_with fail
        refine (lives_any _).mono ?_
        rintro e w11 ⟨rfl, hb11⟩
        have HLW11 : Bx (Below w.heap.size w w11) := ⟨bstep HLW.out hb11⟩
        clear hb11 HLW
        go_wp2
        go_ret
        exact ⟨rfl, HLW11.out⟩

set_option maxRecDepth 100000 in
theorem lifted (os : Os) (started : os.Started) (H : Type) (enc : TypeId × Value → H) :
    ReturnsInHanded {} Try.checked os 7 .any (Rows.walForgedSpec.pre6 enc Try.prog Try.f7 Rows.walForgedRow.domain false) (Rows.walForgedSpec.post enc Try.prog Try.f7 false true false false) := by
  refine returnsInHanded_of_change (C := Try.checked) own started (by kernel_rfl) Try.func7
    (ChangeSpec.witness6 (enc := enc) (C := Try.checked) false ⟨#[], #[.slice none 0 0, .int .u64 0, .int .i64 0, .slice none 0 0], []⟩ 8 (by kernel_rfl) (by kernel_rfl) (by kernel_rfl) (by kernel_rfl)) ?_
  intro W base args ds gs before hval0 hW hcnd _
  have hval : ∀ (j : Nat) t v, Try.f7.params[j]? = some t → args[j]? = some v → Value.okWide Try.prog W .any base t v := hval0
  have hW' := hW
  obtain ⟨p, q, hA0, hV, rfl, hfz, hnd⟩ := hW
  have hA : DataW.TrodAll enc Try.prog W 0 (fun _ => true) true Try.f7.params.toList args.toList ds p := hA0
  rw [Try.params7] at hA hval
  obtain ⟨v0, vs0, d0, ds0, p0, q0, hargs, rfl, rfl, h0, r0⟩ := trodAll_cons hA
  obtain ⟨v1, vs1, d1, ds1, p1, q1, rfl, rfl, rfl, h1, r1⟩ := trodAll_cons r0
  obtain ⟨v2, vs2, d2, ds2, p2, q2, rfl, rfl, rfl, h2, r2⟩ := trodAll_cons r1
  obtain ⟨v3, vs3, d3, ds3, p3, q3, rfl, rfl, rfl, h3, r3⟩ := trodAll_cons r2
  obtain ⟨rfl, rfl, rfl⟩ := trodAll_nil r3
  obtain rfl : args = #[v0, v1, v2, v3] := by cases args; simp_all
  obtain ⟨rfl, rfl⟩ := trodVars_none hV
  obtain ⟨a0, len0, cap0, rfl⟩ := okWide_slice Try.underlying22 (hval 0 22 v0 rfl rfl)
  obtain ⟨a3, len3, cap3, rfl⟩ := okWide_slice Try.underlying39 (hval 3 39 v3 rfl rfl)
  have k0 := h0
  have lt0 : ∀ x ∈ p0, x.block < W.heap.size := by obtain ⟨m, hm⟩ := k0; exact DataW.trod_lt m _ _ _ hm
  have k1 := h1
  have lt1 : ∀ x ∈ p1, x.block < W.heap.size := by obtain ⟨m, hm⟩ := k1; exact DataW.trod_lt m _ _ _ hm
  have k2 := h2
  have lt2 : ∀ x ∈ p2, x.block < W.heap.size := by obtain ⟨m, hm⟩ := k2; exact DataW.trod_lt m _ _ _ hm
  have k3 := h3
  have lt3 : ∀ x ∈ p3, x.block < W.heap.size := by obtain ⟨m, hm⟩ := k3; exact DataW.trod_lt m _ _ _ hm
  obtain ⟨L, hL⟩ := open_dos h0
  obtain ⟨sq, rfl, hsq⟩ := open_u64 (hval 1 72 v1 rfl rfl) h1
  obtain ⟨nn, rfl, hnn⟩ := open_i64 (hval 2 3 v2 rfl rfl) h2
  obtain ⟨K, hK⟩ := open_bls h3
  clear hA0 hval0
  refine (walk a0 len0 cap0 L sq nn a3 len3 cap3 K W hL hsq hnn hK).mono fun e W' ⟨he, bel⟩ => ?_
  subst he
  exact ⟨_, rfl, _, _, _, [], _, [], hW', trodAll_mk1 (shut_bool Try.underlying4 _), (trodAll_cons_mk (Below.trod laidOut (by kernel_rfl) (of_decide_eq_true (by kernel_rfl)) k0 bel lt0) (trodAll_cons_mk (Below.trod laidOut (by kernel_rfl) (of_decide_eq_true (by kernel_rfl)) k1 bel lt1) (trodAll_cons_mk (Below.trod laidOut (by kernel_rfl) (of_decide_eq_true (by kernel_rfl)) k2 bel lt2) (trodAll_cons_mk (Below.trod laidOut (by kernel_rfl) (of_decide_eq_true (by kernel_rfl)) k3 bel lt3) trodAll_mk0)))), rfl, bel.frame _, fun h => by cases h⟩

theorem over : Rows.walForgedRow.holds Try.pinned (OpenSpec.ofChange Rows.walForgedSpec) :=
  OpenClaim.holds_of_wide 7 Try.f7 rfl rfl rfl rfl rfl rfl rfl ⟨rfl, rfl, rfl, rfl, rfl⟩ rfl rfl rfl rfl rfl (by kernel_rfl) Try.func7 (by kernel_rfl)
    (of_decide_eq_true (by kernel_rfl)) (by unfold Func.isWrapper; first | (rw [if_pos (by decide +kernel)]; kernel_rfl) | (rw [if_neg (by decide +kernel)]; exact ⟨rfl, rfl⟩))
    (fun os started H enc _ => lifted os started H enc)

/-- the statement -/
theorem proved : Rows.WalForgedSaid := over
end Go.Proofs.Ytigaciflbgbolaa.walForged
namespace Go.Proofs.Ytigaciflbgbolaa
theorem walForged_holds : Rows.WalForgedSaid := walForged.proved
#print axioms walForged_holds
end Go.Proofs.Ytigaciflbgbolaa
