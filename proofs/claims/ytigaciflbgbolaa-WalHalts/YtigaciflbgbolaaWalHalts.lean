/- For every list of calls, two ints and every uint32 the law WalHalts returns true and the list reads as it did (P10.1): where at most 32 bits in a row of a frame on the disk are others the log is not opened, and nothing is written. No condition. -/
import Derived.Test.YtigaciflbgbolaaRows
import Derived.Test.YtigaciflbgbolaaHalt10
import Derived.Test.YtigaciflbgbolaaCut
import Derived.WalkKit
import Derived.ProofKit
import Derived.OpenShut
import Derived.ShutString
import Derived.ChangeOld
import Derived.Below
namespace Go.Proofs.Ytigaciflbgbolaa.walHalts
open Go.ChangeShapes Go.WideShapes Go.ChangeAt Go.RowKit
open Go.ChangeMaps (open_string shut_string)
set_option linter.unusedVariables false

theorem own : ownKnob Try.prog.godebug = none := by kernel_rfl
theorem laidOut : laidOutB Try.prog = true := by kernel_rfl


set_option maxRecDepth 100000 in
set_option maxHeartbeats 4000000 in
theorem walk (a0 : Option Addr) (len0 cap0 : Nat) (L : List DoM) (wh : Int) (at0 : Int) (bb : Int) (w : World) (hL : Dos w a0 len0 cap0 L) (hwh : I64 wh) (hat0 : I64 at0) (hbb : U32 bb) :
    Calls Try.prog 6 #[.slice a0 len0 cap0, .int .i64 wh, .int .i64 at0, .int .u32 bb] w fun e w' => e = .returned (.bool true) ∧ Below w.heap.size w w' := by
  have HL : Bx (Dos w a0 len0 cap0 L) := ⟨hL⟩
  obtain ⟨B, rfl⟩ : ∃ B : Nat, bb = B := ⟨bb.toNat, by have := hbb.1; omega⟩
  have hB : B ≤ 4294967295 := by have := hbb.2; omega
  clear hL hbb
  go_enter Try.func6, Try.ntmps6
  go_wp2_with fail
  refine (dd_new w _ 300 (Below.refl _ _) (by decide) (by decide)).mono ?_
  rintro e w1 ⟨gd, rfl, hD1, hb1⟩
  have HRN := rest_new 300
  have hF : (dnew 300).F.length = 300 := by simp [dnew]
  have hrd := HRN.rd hD1.ok
  obtain ⟨q1, q2⟩ := wip_rest HRN
  have hOO : (dnew 300).O.length ≤ 900000 := by simp [dnew]
  go_wp2_with fail
  refine (dd_open w _ _ gd (dnew 300) [] hD1 rfl hOO hrd q1).mono ?_
  rintro e w2 ⟨gl, rfl, hDL2, _⟩
  rw [q2] at hDL2
  have HDL2 : Bx _ := ⟨hDL2⟩
  have HRB : Bx (Rest (dnew 300) [] ∧ (dnew 300).armed = false ∧ (dnew 300).F.length = 300) := ⟨HRN, rfl, hF⟩
  clear hDL2 q1 q2 hrd HRN hF hOO hD1 hb1
  generalize dnew 300 = s0' at HDL2 HRB
  go_wp2_with fail
  refine (few_any a0 len0 cap0 L w _ HL.out HDL2.out.low).mono ?_
  rintro e w3 ⟨⟨m, rfl, hm40, Q, hM⟩, hb3⟩
  have HM : Bx _ := ⟨hM⟩
  have hmc := hM.le_cap
  have hmx := hM.cap_le
  unfold maxLen at hmx
  have HD3 : Bx _ := ⟨HDL2.out.step hb3⟩
  clear hM hb3 HDL2 HL
  go_wp2
  go_loopw [13, 14, 15] (fun f z i wr => ∃ (k : Nat) (s : DS) (T : List (List Int)) (X : Nat → Prop), k ≤ m ∧ i = .int .i64 (k : Int) ∧ T.length ≤ k ∧ Bx (Rest s T ∧ s.armed = false ∧ s.F.length = 300) ∧ Bx (DL w wr X gd gl s (lgs T)) ∧ Bx (TwoI wr X f z (frI T) (szI T) ∧ ∀ j, X j → w.heap.size ≤ j)) (fun _ _ i _ => m - (intOf i).toNat)
  case atStart => exact ⟨0, s0', [], fun _ => False, Nat.zero_le _, rfl, Nat.le_refl _, HRB, HD3, ⟨⟨World.ownsRow_nil _ _ _ _, World.ownsRow_nil _ _ _ _, fun k hk => by simp [Value.ownBlock] at hk, fun k hk => by simp [Value.ownBlock] at hk, fun k hk => by simp [Value.ownBlock] at hk⟩, fun j hj => hj.elim⟩⟩
  case round =>
    clear HRB HD3
    obtain ⟨k, s, T, X, hk', rfl, hTk, HR, HD, HTW⟩ := hrel
    obtain ⟨v1, hv1⟩ : ∃ v1, v1 = u13 := ⟨_, rfl⟩
    obtain ⟨v2, hv2⟩ : ∃ v2, v2 = u14 := ⟨_, rfl⟩
    subst hv1 hv2
    by_cases hlt : k < m
    · skip
      have hkI : (k : Int) < (m : Int) := by omega
      obtain ⟨b, off, a2, l2, c2, a3, l3, c3, rfl, z0, z1, z2, z3, z4, hdv, hbw⟩ := HM.out.at HD.out.low k hlt
      have HDV : Bx _ := ⟨hdv⟩
      generalize Q.getD k doZ = d at z0 z1 z2 HDV
      have HRG : Bx (∀ W, Below w.heap.size w W → W.rangeAt b (off + k * 5) [.int .i64 d.kind, .int .i64 d.n, .int .i64 d.long, .slice a2 l2 c2, .slice a3 l3 c3]) := ⟨fun W hW => by
        have hlw := HD.out.low
        have e : ∀ j, W.cell? ⟨b, j, none⟩ = wr.cell? ⟨b, j, none⟩ := fun j => (hW.cell hbw).trans (hlw.cell hbw).symm
        intro j v hj
        rw [e]
        match j, hj with
        | 0, hj => cases hj; exact z0
        | 1, hj => cases hj; exact z1
        | 2, hj => cases hj; exact z2
        | 3, hj => cases hj; exact z3
        | 4, hj => cases hj; exact z4
        | j + 5, hj => simp at hj⟩
      clear hdv hbw
      go_wp2_with fail
      refine (dl_next w _ _ gd gl s (lgs T) HD.out).mono ?_
      rintro e w' ⟨rfl, rfl⟩
      obtain ⟨nx, HNX⟩ : ∃ nx : Int, Bx (nx = ((FrS 0 T).length : Int)) := ⟨_, ⟨rfl⟩⟩
      have e1 : (((lgs T).next : Nat) : Int) = nx := HNX.out.symm
      rw [e1]
      clear e1
      have hdv5 := HDV.out.below HD.out.low
      go_wp2_with fail
      refine (text_any d a2 l2 c2 a3 l3 c3 _ hdv5).mono ?_
      rintro e w5 ⟨v5, rfl, hown5, hb5⟩
      have hby := txt_byt HDV.out.b.byt
      obtain ⟨a5, c5, rfl, hm5⟩ := Bts.of_owns hown5 hby
      have HF5 : Bx (0 < (txt d).length → ∀ p, a5 = some p → wr.heap.size ≤ p.block) := ⟨fun _ p e => (own_ge hown5 p e).1⟩
      have HOO : Bx (s.O.length ≤ 900000) := ⟨by rw [HR.out.1.o]; exact Nat.zero_le _⟩
      obtain ⟨p1, p2, p3⟩ := ap_cases HR.out.1 hby
      have hX : ∃ s6 E6, apS s (lgs T) (txt d) = s6 ∧ apE s (lgs T) (txt d) = E6 ∧ s6.armed = false ∧ s6.F.length = 300 ∧ ((E6 = 0 ∧ Rest s6 (T ++ [txt d]) ∧ apL s (lgs T) (txt d) = lgs (T ++ [txt d])) ∨ ((E6 = 5 ∨ E6 = 11) ∧ Rest s6 T ∧ apL s (lgs T) (txt d) = lgs T)) := by
        refine ⟨_, _, rfl, rfl, p1 HR.out.2.1, by rw [p2]; exact HR.out.2.2, ?_⟩
        rcases p3 with ⟨e1, e2, e3, _⟩ | ⟨_, e2, _⟩ | ⟨e1, e2, e3, _⟩
        · exact .inl ⟨e1, e2, e3⟩
        · rw [HR.out.2.1] at e2; cases e2
        · exact .inr ⟨e1, by rw [e2]; exact HR.out.1, e3⟩
      obtain ⟨s6, E6, es, ee, ha6, hf6, hcase⟩ := hX
      clear p1 p2 p3 z0 z1 z2 z3 z4 hdv5 hown5
      go_wp2_with fail
      refine (dl_append w wr _ X gd gl s (lgs T) a5 _ c5 (txt d) HD.out hb5 hm5 HF5.out HOO.out).mono ?_
      rintro e w6 ⟨rfl, hD6, hx6⟩
      rw [es] at hD6
      rw [ee]
      have HT6 : Bx (TwoI w6 X v1 v2 (frI T) (szI T)) := ⟨HTW.out.1.keep (fun j hj => hx6.2 j hj) (fun _ h => h)⟩
      obtain ⟨tl, HTL⟩ : ∃ tl, Bx (tl = (txt d).length) := ⟨_, ⟨rfl⟩⟩
      have htl : tl ≤ 17600 := by rw [HTL.out]; exact txt_len d
      rw [← HTL.out]
      rcases hcase with ⟨hE, hr6, hl6⟩ | ⟨hE, hr6, hl6⟩
      · rw [hl6] at hD6
        have HD6 : Bx _ := ⟨hD6⟩
        have HR6 : Bx (Rest s6 (T ++ [txt d]) ∧ s6.armed = false ∧ s6.F.length = 300) := ⟨hr6, ha6, hf6⟩
        have HTI : Bx (TI w6 w6.drew X v1 v2 (frI T) (szI T)) := ⟨X, HT6.out.below (below_drewN (Below.refl _ _) 1), fun k hk => .inl hk, (Kept.refl _ _).drewN 1⟩
        have HLW : Bx (∀ W v1 v2 l1 l2, TI w6 W X v1 v2 l1 l2 → Below w.heap.size w W) := ⟨fun W _ _ _ _ hW => by
          obtain ⟨_, _, _, hK⟩ := hW
          exact HD6.out.low.trans (hK.low HTW.out.2 HD6.out.low.size)⟩
        have hk : Below w.heap.size w w6.drew := HD6.out.low.drew
        have HFR : Bx (frI (T ++ [txt d]) = frI T ++ [nx] ∧ szI (T ++ [txt d]) = szI T ++ [(tl : Int) + 20]) := ⟨by rw [frI_snoc, HNX.out], by rw [szI_snoc, HTL.out]⟩
        obtain ⟨q, HQ⟩ : ∃ q, Bx (q = T.length) := ⟨_, ⟨rfl⟩⟩
        have HQ1 : Bx (q = (frI T).length) := ⟨by rw [frI_len]; exact HQ.out⟩
        have HQ2 : Bx (q = (szI T).length) := ⟨by rw [szI_len]; exact HQ.out⟩
        have hq4 : q ≤ 40 := by rw [HQ.out]; omega
        have hw20 : IntKind.i64.wrap ((tl : Int) + 20) = (tl : Int) + 20 := IntWalk.i64_in _ (by omega)
        have HGE : Bx _ := ⟨HTW.out.2⟩
        obtain ⟨i0, hi0, hz0, hz1, hz2⟩ := info_parts int_info
        rw [hE]
        clear hE es ee ha6 hf6 hr6 hl6 hD6 hx6 hb5 hm5 HF5 HOO HD HTW HT6 hby HR
        generalize frI T = fr at HTI HFR HQ1
        generalize szI T = sz at HTI HFR HQ2
        go_wp2_with fail
        refine wp_region_held_drew (S := fun W => Below w.heap.size w W) (by kernel_rfl) hk (fun _ => ?_)
        generalize w6.drew = wk at hk HTI ⊢
        refine wpAnyH_take (i := 0) (oi := { dst := some 55, op := Op.move (Operand.tmp 13), type := 66, pos := "law.go:214", after := #[], guard := none }) (v := ?vht121) rfl (by kernel_rfl) (by kernel_rfl) (by kernel_rfl) (fun _ _ _ h => h) (Or.inl ⟨by rfl, ?yht121⟩) hk ?rht121
        case yht121 => (intro w hSw; (try dsimp only at hSw); go_simp; first | done | with_reducible rfl)
        simp only [Act.put, List.setIfInBounds_toArray, List.set_cons_zero, List.set_cons_succ]
        refine wpAnyH_take (i := 1) (oi := { dst := some 56, op := Op.move (Operand.tmp 16), type := 3, pos := "law.go:214", after := #[], guard := none }) (v := ?vht122) rfl (by kernel_rfl) (by kernel_rfl) (by kernel_rfl) (fun _ _ _ h => h) (Or.inl ⟨by rfl, ?yht122⟩) hk ?rht122
        case yht122 => (intro w hSw; (try dsimp only at hSw); go_simp; first | done | with_reducible rfl)
        simp only [Act.put, List.setIfInBounds_toArray, List.set_cons_zero, List.set_cons_succ]
        refine wpAnyH_take (i := 4) (oi := { dst := some 59, op := Op.move (Operand.tmp 14), type := 66, pos := "law.go:214", after := #[], guard := none }) (v := ?vht123) rfl (by kernel_rfl) (by kernel_rfl) (by kernel_rfl) (fun _ _ _ h => h) (Or.inl ⟨by rfl, ?yht123⟩) hk ?rht123
        case yht123 => (intro w hSw; (try dsimp only at hSw); go_simp; first | done | with_reducible rfl)
        simp only [Act.put, List.setIfInBounds_toArray, List.set_cons_zero, List.set_cons_succ]
        refine wpAnyH_take (i := 5) (oi := { dst := some 60, op := Op.move (Operand.tmp 0), type := 22, pos := "law.go:214", after := #[], guard := none }) (v := ?vht124) rfl (by kernel_rfl) (by kernel_rfl) (by kernel_rfl) (fun _ _ _ h => h) (Or.inl ⟨by rfl, ?yht124⟩) hk ?rht124
        case yht124 => (intro w hSw; (try dsimp only at hSw); go_simp; first | done | with_reducible rfl)
        simp only [Act.put, List.setIfInBounds_toArray, List.set_cons_zero, List.set_cons_succ]
        refine wpAnyH_take (i := 6) (oi := { dst := some 61, op := Op.move (Operand.tmp 15), type := 3, pos := "law.go:214", after := #[], guard := none }) (v := ?vht125) rfl (by kernel_rfl) (by kernel_rfl) (by kernel_rfl) (fun _ _ _ h => h) (Or.inl ⟨by rfl, ?yht125⟩) hk ?rht125
        case yht125 => (intro w hSw; (try dsimp only at hSw); go_simp; first | done | with_reducible rfl)
        simp only [Act.put, List.setIfInBounds_toArray, List.set_cons_zero, List.set_cons_succ]
        refine wpAnyH_take (i := 7) (oi := { dst := some 62, op := Op.indexAddr 22 (Operand.tmp 60) (Operand.tmp 61), type := 0, pos := "law.go:214", after := #[{ on := 5, ground := Ground.data }, { on := 6, ground := Ground.data }], guard := none }) (v := ?vht126) rfl (by kernel_rfl) (by kernel_rfl) (by kernel_rfl) (fun _ _ _ h => h) (Or.inl ⟨by rfl, ?yht126⟩) hk ?rht126
        case yht126 => (intro w hSw; (try dsimp only at hSw); go_simp; first | done | with_reducible rfl)
        simp only [Act.put, List.setIfInBounds_toArray, List.set_cons_zero, List.set_cons_succ]
        refine wpAnyH_take (i := 8) (oi := { dst := some 63, op := Op.load 41 (Operand.tmp 62), type := 41, pos := "law.go:214", after := #[{ on := 7, ground := Ground.data }], guard := none }) (v := .agg ([.int .i64 d.kind, .int .i64 d.n, .int .i64 d.long, .slice a2 l2 c2, .slice a3 l3 c3]).toArray) rfl (by kernel_rfl) (by kernel_rfl) (by kernel_rfl) (fun _ _ _ h => h) (yieldsIf_load_mid (by rfl) 41 (.tmp 62) rfl b (off + k * 5) rfl ([.int .i64 d.kind, .int .i64 d.n, .int .i64 d.long, .slice a2 l2 c2, .slice a3 l3 c3]) _ (fun W h => HRG.out W h) Try.underlying41 rfl do_info) hk ?_
        simp only [Act.put, List.setIfInBounds_toArray, List.set_cons_zero, List.set_cons_succ]
        refine wpAnyH_ready (rs := [2]) (by decide +kernel) (by simp) ?_
        refine AllReadyH.cons (o := { dst := some 57, op := Op.buildSlice 66 1 #[(0, Operand.tmp 56)], type := 66, pos := "law.go:214", after := #[{ on := 1, ground := Ground.data }], guard := none }) rfl (fun K hK => ?_) AllReadyH.nil
        go_simp
        have hbA : Below wk.heap.size wk (wk.alloc (.cells #[.int .i64 nx] 3)) := (Below.refl _ _).alloc (Nat.le_refl _) _
        have hnew := World.news_of_block (heap_alloc_new wk (.cells #[.int .i64 nx] 3))
        replace HTI : Bx (TI w6 (wk.alloc (.cells #[.int .i64 nx] 3)) X v1 v2 fr sz) := ⟨HTI.out.below hbA⟩
        replace hk : Below w.heap.size w (wk.alloc (.cells #[.int .i64 nx] 3)) := bstep hk hbA
        clear hbA
        generalize wk.heap.size = G at hnew ⊢
        generalize wk.alloc (.cells #[.int .i64 nx] 3) = wk at HTI hk hnew ⊢
        refine hK.out _ _ hk (fun _ => ?_)
        clear hK K
        try simp only [Act.put, List.setIfInBounds_toArray, List.set_cons_zero, List.set_cons_succ]
        refine wpAnyH_ready (rs := [3]) (by decide +kernel) (by simp) ?_
        refine AllReadyH.cons (o := { dst := some 58, op := Op.call { callee := Callee.builtin Builtin.append, args := #[Operand.tmp 55, Operand.tmp 57], argTypes := #[66, 66] }, type := 66, pos := "law.go:214", after := #[{ on := 0, ground := Ground.data }, { on := 2, ground := Ground.data }], guard := none }) rfl (fun K hK => ?_) AllReadyH.nil
        have hxo := HTI.out.o1
        rw [← HQ1.out] at hxo
        refine step_append_lies _ rfl (.tmp 55) (.tmp 57) 66 rfl 0 3 i0 (.int .i64 0) 1 8 Try.underlying66 hi0 hz0 hz1 hz2 rfl (by decide) v1 q (iv fr) rfl hxo ⟨G, 0, none⟩ 1 1 [.int .i64 nx] rfl rfl hnew (by simp [Value.oneCell']) (by decide) (by unfold maxLen; omega) (by omega) (Nat.zero_le _) _ rfl ?_
        intro g4 cap4 w7 hown4 hgr4 hl4 hlt4
        replace HTI : Bx (TI w6 w7 X (.slice (some ⟨g4, 0, none⟩) (q + 1) cap4) v2 (fr ++ [nx]) sz) := ⟨HTI.out.app HQ1.out hown4 hgr4 hl4⟩
        replace hk : Below w.heap.size w w7 := HLW.out w7 _ _ _ _ HTI.out
        clear hown4 hgr4 hl4 hlt4 hxo hnew
        generalize w7 = wk at HTI hk ⊢
        refine hK.out _ _ hk (fun _ => ?_)
        clear hK K
        try simp only [Act.put, List.setIfInBounds_toArray, List.set_cons_zero, List.set_cons_succ]
        refine wpAnyH_ready (rs := [9]) (by decide +kernel) (by simp) ?_
        refine AllReadyH.cons (o := { dst := some 64, op := Op.call { callee := Callee.value (Operand.func 16), args := #[Operand.tmp 63], argTypes := #[41] }, type := 38, pos := "law.go:214", after := #[{ on := 8, ground := Ground.data }, { on := 3, ground := Ground.chain }], guard := none }) rfl (fun K hK => ?_) AllReadyH.nil
        go_simp
        refine (text_any d a2 l2 c2 a3 l3 c3 _ (HDV.out.below hk)).mono ?_
        rintro e1 w8 ⟨v8, rfl, hown8, hb8⟩
        obtain ⟨a8, c8, rfl⟩ := opn_form hown8
        rw [← HTL.out]
        replace HTI : Bx (TI w6 w8 X (.slice (some ⟨g4, 0, none⟩) (q + 1) cap4) v2 (fr ++ [nx]) sz) := ⟨HTI.out.below hb8⟩
        replace hk : Below w.heap.size w w8 := bstep hk hb8
        clear hown8 hb8
        generalize w8 = wk at HTI hk ⊢
        refine hK.out _ _ hk (fun _ => ?_)
        clear hK K
        try simp only [Act.put, List.setIfInBounds_toArray, List.set_cons_zero, List.set_cons_succ]
        refine wpAnyH_take (i := 10) (oi := { dst := some 65, op := Op.call { callee := Callee.builtin Builtin.len, args := #[Operand.tmp 64], argTypes := #[38] }, type := 3, pos := "law.go:214", after := #[{ on := 9, ground := Ground.data }], guard := none }) (v := ?vht127) rfl (by kernel_rfl) (by kernel_rfl) (by kernel_rfl) (fun _ _ _ h => h) (Or.inl ⟨by rfl, ?yht127⟩) hk ?rht127
        case yht127 => (intro w hSw; (try dsimp only at hSw); go_simp; first | done | with_reducible rfl)
        simp only [Act.put, List.setIfInBounds_toArray, List.set_cons_zero, List.set_cons_succ]
        refine wpAnyH_take (i := 11) (oi := { dst := some 66, op := Op.binOp BinOp.add 3 (Operand.tmp 65) (Operand.const (Value.int IntKind.i64 20)) 3, type := 3, pos := "law.go:214", after := #[{ on := 10, ground := Ground.data }], guard := none }) (v := ?vht128) rfl (by kernel_rfl) (by kernel_rfl) (by kernel_rfl) (fun _ _ _ h => h) (Or.inl ⟨by rfl, ?yht128⟩) hk ?rht128
        case yht128 => (intro w hSw; (try dsimp only at hSw); go_simp; first | done | with_reducible rfl)
        simp only [Act.put, List.setIfInBounds_toArray, List.set_cons_zero, List.set_cons_succ]
        refine wpAnyH_ready (rs := [12]) (by decide +kernel) (by simp) ?_
        refine AllReadyH.cons (o := { dst := some 67, op := Op.buildSlice 66 1 #[(0, Operand.tmp 66)], type := 66, pos := "law.go:214", after := #[{ on := 11, ground := Ground.data }], guard := none }) rfl (fun K hK => ?_) AllReadyH.nil
        go_simp
        have hbA : Below wk.heap.size wk (wk.alloc (.cells #[.int .i64 ((tl : Int) + 20)] 3)) := (Below.refl _ _).alloc (Nat.le_refl _) _
        have hnew := World.news_of_block (heap_alloc_new wk (.cells #[.int .i64 ((tl : Int) + 20)] 3))
        replace HTI : Bx (TI w6 (wk.alloc (.cells #[.int .i64 ((tl : Int) + 20)] 3)) X (.slice (some ⟨g4, 0, none⟩) (q + 1) cap4) v2 (fr ++ [nx]) sz) := ⟨HTI.out.below hbA⟩
        replace hk : Below w.heap.size w (wk.alloc (.cells #[.int .i64 ((tl : Int) + 20)] 3)) := bstep hk hbA
        clear hbA
        generalize wk.heap.size = G at hnew ⊢
        generalize wk.alloc (.cells #[.int .i64 ((tl : Int) + 20)] 3) = wk at HTI hk hnew ⊢
        refine hK.out _ _ hk (fun _ => ?_)
        clear hK K
        try simp only [Act.put, List.setIfInBounds_toArray, List.set_cons_zero, List.set_cons_succ]
        refine wpAnyH_ready (rs := [13]) (by decide +kernel) (by simp) ?_
        refine AllReadyH.cons (o := { dst := some 68, op := Op.call { callee := Callee.builtin Builtin.append, args := #[Operand.tmp 59, Operand.tmp 67], argTypes := #[66, 66] }, type := 66, pos := "law.go:214", after := #[{ on := 4, ground := Ground.data }, { on := 12, ground := Ground.data }, { on := 9, ground := Ground.chain }], guard := none }) rfl (fun K hK => ?_) AllReadyH.nil
        have hxo := HTI.out.symm.o1
        rw [← HQ2.out] at hxo
        refine step_append_lies _ rfl (.tmp 59) (.tmp 67) 66 rfl 0 3 i0 (.int .i64 0) 1 8 Try.underlying66 hi0 hz0 hz1 hz2 rfl (by decide) v2 q (iv sz) rfl hxo ⟨G, 0, none⟩ 1 1 [.int .i64 ((tl : Int) + 20)] rfl rfl hnew (by simp [Value.oneCell']) (by decide) (by unfold maxLen; omega) (by omega) (Nat.zero_le _) _ rfl ?_
        intro g5 cap5 w9 hown5 hgr5 hl5 hlt5
        replace HTI : Bx (TI w6 w9 X (.slice (some ⟨g4, 0, none⟩) (q + 1) cap4) (.slice (some ⟨g5, 0, none⟩) (q + 1) cap5) (fr ++ [nx]) (sz ++ [(tl : Int) + 20])) := ⟨(HTI.out.symm.app HQ2.out hown5 hgr5 hl5).symm⟩
        replace hk : Below w.heap.size w w9 := HLW.out w9 _ _ _ _ HTI.out
        clear hown5 hgr5 hl5 hlt5 hxo hnew
        generalize w9 = wk at HTI hk ⊢
        refine hK.out _ _ hk (fun _ => ?_)
        clear hK K
        try simp only [Act.put, List.setIfInBounds_toArray, List.set_cons_zero, List.set_cons_succ]
        refine wpAnyH_take (i := 14) (oi := { dst := some 13, op := Op.assign (Operand.tmp 58), type := 66, pos := "law.go:214", after := #[{ on := 3, ground := Ground.data }, { on := 13, ground := Ground.chain }, { on := 0, ground := Ground.phase }, { on := 1, ground := Ground.phase }, { on := 2, ground := Ground.phase }, { on := 3, ground := Ground.phase }, { on := 4, ground := Ground.textOnly Departure.lateStores }, { on := 5, ground := Ground.textOnly Departure.lateStores }, { on := 6, ground := Ground.textOnly Departure.lateStores }, { on := 7, ground := Ground.textOnly Departure.lateStores }, { on := 8, ground := Ground.textOnly Departure.lateStores }, { on := 9, ground := Ground.textOnly Departure.lateStoresUnsure }, { on := 10, ground := Ground.textOnly Departure.lateStoresUnsure }, { on := 11, ground := Ground.textOnly Departure.lateStores }, { on := 12, ground := Ground.textOnly Departure.lateStores }, { on := 13, ground := Ground.textOnly Departure.lateStoresUnsure }], guard := none }) (v := ?vht129) rfl (by kernel_rfl) (by kernel_rfl) (by kernel_rfl) (fun _ _ _ h => h) (Or.inl ⟨by rfl, ?yht129⟩) hk ?rht129
        case yht129 => (intro w hSw; (try dsimp only at hSw); go_simp; first | done | with_reducible rfl)
        simp only [Act.put, List.setIfInBounds_toArray, List.set_cons_zero, List.set_cons_succ]
        refine wpAnyH_take (i := 15) (oi := { dst := some 14, op := Op.assign (Operand.tmp 68), type := 66, pos := "law.go:214", after := #[{ on := 13, ground := Ground.data }, { on := 14, ground := Ground.chain }, { on := 0, ground := Ground.phase }, { on := 1, ground := Ground.phase }, { on := 2, ground := Ground.phase }, { on := 3, ground := Ground.phase }, { on := 4, ground := Ground.phase }, { on := 5, ground := Ground.phase }, { on := 6, ground := Ground.phase }, { on := 7, ground := Ground.phase }, { on := 8, ground := Ground.phase }, { on := 9, ground := Ground.phase }, { on := 10, ground := Ground.phase }, { on := 11, ground := Ground.phase }, { on := 12, ground := Ground.phase }, { on := 13, ground := Ground.phase }, { on := 14, ground := Ground.phase }], guard := none }) (v := ?vht1210) rfl (by kernel_rfl) (by kernel_rfl) (by kernel_rfl) (fun _ _ _ h => h) (Or.inl ⟨by rfl, ?yht1210⟩) hk ?rht1210
        case yht1210 => (intro w hSw; (try dsimp only at hSw); go_simp; first | done | with_reducible rfl)
        simp only [Act.put, List.setIfInBounds_toArray, List.set_cons_zero, List.set_cons_succ]
        refine wpAnyH_done (by decide +kernel) ?_ _
        obtain ⟨X2, hT9, hn9, hK9⟩ := HTI.out
        rw [← HFR.out.1, ← HFR.out.2] at hT9
        have HD9 : Bx _ := ⟨HD6.out.other hK9 HGE.out hn9⟩
        have HT9 : Bx (TwoI wk X2 (.slice (some ⟨g4, 0, none⟩) (q + 1) cap4) (.slice (some ⟨g5, 0, none⟩) (q + 1) cap5) (frI (T ++ [txt d])) (szI (T ++ [txt d])) ∧ ∀ j, X2 j → w.heap.size ≤ j) := ⟨hT9, fun j hj => by
          rcases hn9 j hj with h | h
          · exact HGE.out j h
          · have := HD6.out.low.size; omega⟩
        have HWL : Bx ((T ++ [txt d]).length ≤ k + 1) := ⟨by rw [List.length_append]; show T.length + 1 ≤ _; omega⟩
        clear hT9 hn9 hK9 hk HTI HD6
        go_wp2
        go_roundw
        case rel => exact ⟨k + 1, _, _, _, by omega, by go_num, HWL.out, HR6, HD9, HT9⟩
        case measure => simp [intOf]; omega
      · rw [hl6] at hD6
        have HD6 : Bx _ := ⟨hD6⟩
        have HR6 : Bx (Rest s6 T ∧ s6.armed = false ∧ s6.F.length = 300) := ⟨hr6, ha6, hf6⟩
        have HTG : Bx (TwoI w6 X v1 v2 (frI T) (szI T) ∧ ∀ j, X j → w.heap.size ≤ j) := ⟨HT6.out, HTW.out.2⟩
        have heb : (E6 == 0) = false := by rcases hE with h | h <;> rw [h] <;> decide
        clear hE es ee ha6 hf6 hr6 hl6 hD6 hx6 hb5 hm5 HF5 HOO HD HTW HT6 hby HR
        go_wp2
        go_roundw
        case rel => exact ⟨k + 1, _, _, _, by omega, by go_num, by omega, HR6, HD6, HTG⟩
        case measure => simp [intOf]; omega
    · have hkI : ¬ (k : Int) < (m : Int) := by omega
      clear HM
      obtain ⟨q, HQ⟩ : ∃ q, Bx (q = T.length) := ⟨_, ⟨rfl⟩⟩
      have hq4 : q ≤ 40 := by rw [HQ.out]; omega
      by_cases hq0 : q = 0
      · obtain ⟨a1, c1, hv1⟩ := opn_form HTW.out.1.o1
        rw [frI_len, ← HQ.out, hq0] at hv1
        subst hv1
        have HLW : Bx _ := ⟨HD.out.low⟩
        clear HTW HD HR hq0
        go_wp2_with fail
        refine (lives_any _).mono ?_
        rintro e w5 ⟨rfl, hb5⟩
        have HLW5 : Bx (Below w.heap.size w w5) := ⟨bstep HLW.out hb5⟩
        clear hb5 HLW
        go_wp2
        go_ret
        exact ⟨rfl, HLW5.out⟩
      · obtain ⟨j, hj⟩ : ∃ j : Nat, leastV wh 0 ((q : Int) - 1) = (j : Int) := ⟨(leastV wh 0 ((q : Int) - 1)).toNat, by have := least_bd wh 0 ((q : Int) - 1) (by omega); omega⟩
        have hjq : j < q := by have := least_bd wh 0 ((q : Int) - 1) (by omega); omega
        have hjT : j < T.length := by rw [← HQ.out]; exact hjq
        obtain ⟨g1, c1, hv1, hc1, hm1, hcell1, hXg1⟩ := HTW.out.1.cell j (by rw [frI_len]; exact hjT)
        obtain ⟨g2, c2, hv2, hc2, hm2, hcell2, hXg2⟩ := HTW.out.1.symm.cell j (by rw [szI_len]; exact hjT)
        rw [frI_len, ← HQ.out] at hv1 hc1
        rw [szI_len, ← HQ.out] at hv2 hc2
        obtain ⟨A, HA⟩ : ∃ A : Nat, Bx (A = (FrS 0 (T.take j)).length) := ⟨_, ⟨rfl⟩⟩
        obtain ⟨fl, HFL⟩ : ∃ fl : Nat, Bx (fl = 20 + (T.getD j []).length) := ⟨_, ⟨rfl⟩⟩
        have htj : (T.getD j []).length ≤ 16384 := by
          rw [List.getD_eq_getElem?_getD, List.getElem?_eq_getElem hjT]; exact (HR.out.1.t _ (List.getElem_mem hjT)).1
        have hfl : 20 ≤ fl ∧ fl ≤ 16404 := by rw [HFL.out]; omega
        have hA : A ≤ 300 := by
          have h1 := rest_next HR.out.1
          rw [HR.out.2.2] at h1
          have h2 : (FrS 0 (T.take j)).length ≤ (FrS 0 T).length := by rw [FrS_at T j hjT, List.length_append]; omega
          rw [HA.out]; omega
        have HCE : Bx (∀ W, TwoI W X (.slice (some ⟨g1, 0, none⟩) q c1) (.slice (some ⟨g2, 0, none⟩) q c2) (frI T) (szI T) → W.cell? ⟨g1, j, none⟩ = some (.int .i64 (A : Int)) ∧ W.cell? ⟨g2, j, none⟩ = some (.int .i64 (fl : Int))) := ⟨fun W hW => by
          obtain ⟨g1', c1', e1, _, _, h1, _⟩ := hW.cell j (by rw [frI_len]; exact hjT)
          obtain ⟨g2', c2', e2, _, _, h2, _⟩ := hW.symm.cell j (by rw [szI_len]; exact hjT)
          injection e1 with e1
          injection e1 with e1
          injection e1 with e1
          injection e2 with e2
          injection e2 with e2
          injection e2 with e2
          subst e1 e2
          constructor
          · rw [h1]; unfold iv; rw [List.getElem?_map, frI_get T j hjT, HA.out]; rfl
          · rw [h2]; unfold iv; rw [List.getElem?_map, szI_get T j hjT]
            show some (Value.int .i64 _) = _
            rw [show ((T.getD j []).length : Int) + 20 = (fl : Int) from by rw [HFL.out]; omega]⟩
        subst hv1 hv2
        have hHS : ∀ p0, Hs s T j p0 B 0 := fun p0 => Hs.start HR.out.1 HR.out.2.1 HR.out.2.2 j p0 B hjT
        have HHS : Bx _ := ⟨hHS⟩
        have HTO : Bx (TOk T) := ⟨HR.out.1.t⟩
        have HJT : Bx (j < T.length) := ⟨hjT⟩
        have HTI : Bx (TwoI wr X (.slice (some ⟨g1, 0, none⟩) q c1) (.slice (some ⟨g2, 0, none⟩) q c2) (frI T) (szI T)) := ⟨HTW.out.1⟩
        have HJ : Bx (leastV wh 0 ((q : Int) - 1) = (j : Int)) := ⟨hj⟩
        clear hHS hcell1 hcell2 hXg1 hXg2 HTW hj htj HR
        obtain ⟨x1, x2⟩ := HCE.out wr HTI.out
        unfold maxLen at hm1 hm2
        have gq : ((q : Int) == 0) = false := beq_eq_false_iff_ne.2 (by omega)
        have gj : (j : Int) < (q : Int) := by omega
        go_wp2_with fail
        refine (least_any _ _ _ _).mono ?_
        rintro e w' ⟨rfl, rfl⟩
        rw [HJ.out]
        go_wp2_with fail
        refine (least_any _ _ _ _).mono ?_
        rintro e w' ⟨rfl, rfl⟩
        have hkb := least_bd at0 0 (8 * (fl : Int) - 1) (by omega)
        generalize leastV at0 0 (8 * (fl : Int) - 1) = kk at hkb ⊢
        obtain ⟨p0, rfl⟩ : ∃ k : Nat, kk = k := ⟨kk.toNat, by omega⟩
        have hp0 : p0 < 8 * fl := by omega
        have HS0 : Bx (Hs s T j p0 B 0) := ⟨HHS.out p0⟩
        clear hkb x1 x2 HHS
        go_wp2
        go_loopw [17, 18] (fun t iv wr => ∃ (i : Nat) (s : DS), i ≤ 32 ∧ p0 + i ≤ 8 * fl ∧ iv = .int .i64 (i : Int) ∧ t = .bool (tnT B i) ∧ Bx (Hs s T j p0 B i) ∧ Bx (DL w wr X gd gl s (lgs T)) ∧ Bx (TwoI wr X (.slice (some ⟨g1, 0, none⟩) q c1) (.slice (some ⟨g2, 0, none⟩) q c2) (frI T) (szI T))) (fun _ iv _ => 32 - (intOf iv).toNat)
        case atStart => exact ⟨0, s, Nat.zero_le _, by omega, rfl, rfl, HS0, HD, HTI⟩
        case round =>
          clear HS0 HD HTI
          obtain ⟨wo, hwo⟩ : ∃ wo, wo = wr := ⟨_, rfl⟩
          subst hwo
          obtain ⟨i, s, hi, hpi, rfl, rfl, HS, HD, HTI⟩ := hrel
          obtain ⟨x1, x2⟩ := HCE.out _ HTI.out
          have hw3 : IntKind.i64.wrap ((p0 : Int) + (i : Int)) = (p0 : Int) + (i : Int) := by rw [IntWalk.i64_in _ (by omega)]
          by_cases hgo : i < 32 ∧ p0 + i < 8 * fl
          · have g1' : decide ((i : Int) < 32) = true := decide_eq_true (by omega)
            have g2' : decide ((p0 : Int) + (i : Int) < 8 * (fl : Int)) = true := decide_eq_true (by omega)
            have ga : (i : Int) < 32 := by omega
            have gb : (p0 : Int) + (i : Int) < 8 * (fl : Int) := by omega
            have hbs := bit_shr B i (by omega)
            by_cases hbit : B.testBit i = true
            · rw [hbit] at hbs
              have hcn : (p0 + i) / 512 < ns (20 + (T.getD j []).length) := by rw [← HFL.out]; unfold ns; omega
              obtain ⟨r1, r2, r3, r4⟩ := HS.out.sec HD.out.ok ((p0 + i) / 512) hcn
              rw [← HA.out] at r1 r2
              have HTN : Bx (∀ b : List Int, b.length = 64 → b = ((chk (tnL (frmL ((j : Int) + 1) (T.getD j [])) p0 B i)).getD ((p0 + i) / 512) []).set ((p0 + i) / 8 % 64) (tnB (((chk (tnL (frmL ((j : Int) + 1) (T.getD j [])) p0 B i)).getD ((p0 + i) / 512) []).getD ((p0 + i) / 8 % 64) 0) ((p0 + i) % 8)) → Hs (s.wr ((A + (p0 + i) / 512 : Nat) : Int) b) T j p0 B (i + 1)) := ⟨fun b hb1 hb2 => by rw [HA.out]; exact (HS.out.turn hbit (by rw [← HFL.out]; omega) b hb1 hb2).2⟩
              have HT : Bx (tnT B (i + 1) = true) := ⟨tnT_step B i hbit⟩
              have HOW : Bx (s.O.length ≤ 1000000) := ⟨by have := HS.out.ol; omega⟩
              generalize (chk (tnL (frmL ((j : Int) + 1) (T.getD j [])) p0 B i)).getD ((p0 + i) / 512) [] = SC at r2 r3 r4 HTN
              have HXX : Bx ((A : Int) + ((p0 : Int) + (i : Int)) / 512 = ((A + (p0 + i) / 512 : Nat) : Int)) := ⟨by omega⟩
              have HR1 : Bx _ := ⟨r1⟩
              have HR2 : Bx _ := ⟨r2⟩
              clear hbit r1 r2
              go_wp2_with fail
              rw [HXX.out]
              refine (dl_read w _ X gd gl s (lgs T) _ HD.out).mono ?_
              rintro e w5 ⟨v5, rfl, hown5, hb5⟩
              rw [HR2.out, r3] at hown5
              rw [HR1.out]
              obtain ⟨gb', cb, rfl, hgb, hgl5⟩ := owns_form hown5 (by decide)
              have hcell := hown5.cellAt ((p0 + i) / 8 % 64) (by omega)
              have hcellb : w5.cell? ⟨gb', (p0 + i) / 8 % 64, none⟩ = some (.int .u8 (SC.getD ((p0 + i) / 8 % 64) 0)) := by
                rw [hcell, List.getD_eq_getElem?_getD]
                simp [bv, List.getElem?_eq_getElem (show (p0 + i) / 8 % 64 < SC.length by rw [r3]; omega)]
              have hf := hown5.frozenAt ((p0 + i) / 8 % 64)
              have hC := r4.getD ((p0 + i) / 8 % 64)
              have hst := hown5.stored ((p0 + i) / 8 % 64) (.int .u8 (tnB (SC.getD ((p0 + i) / 8 % 64) 0) ((p0 + i) % 8)))
              rw [bv_set] at hst
              have hx8 := xor_tn (SC.getD ((p0 + i) / 8 % 64) 0) ((p0 + i) % 8) hC (by omega)
              have hb6 := hb5.grown hst.2 hb5.size (by intro k hk; cases hk; exact hgb)
              have hby6 : Byt (SC.set ((p0 + i) / 8 % 64) (tnB (SC.getD ((p0 + i) / 8 % 64) 0) ((p0 + i) % 8))) := fun c hc => by
                rcases List.mem_or_eq_of_mem_set hc with h | h
                · exact r4 c h
                · rw [h]; exact tnB_byt _ _ hC (by omega)
              have HH6 := HTN.out (SC.set ((p0 + i) / 8 % 64) (tnB (SC.getD ((p0 + i) / 8 % 64) 0) ((p0 + i) % 8))) (by rw [List.length_set]; exact r3) rfl
              generalize SC.set ((p0 + i) / 8 % 64) (tnB (SC.getD ((p0 + i) / 8 % 64) 0) ((p0 + i) % 8)) = SB at hst hby6 HH6
              generalize tnB (SC.getD ((p0 + i) / 8 % 64) 0) ((p0 + i) % 8) = V at hst hx8 hb6
              generalize SC.getD ((p0 + i) / 8 % 64) 0 = C at hcellb hC hx8
              obtain ⟨a6, c6, hv6, hm6⟩ := Bts.of_owns hst.1 hby6
              cases hv6
              have HM6 : Bx _ := ⟨hm6⟩
              have HB6 : Bx _ := ⟨hb6⟩
              have HHS6 : Bx _ := ⟨HH6⟩
              clear hcell hst hown5 hb5 hm6 hb6 hby6 HH6 HTN r3 r4 x1 x2 HS
              go_wp2_with fail
              clear hcellb hf
              generalize w5.setCell ⟨gb', (p0 + i) / 8 % 64, none⟩ (.int .u8 V) = w6 at HM6 HB6 ⊢
              refine (dl_write w wo _ X gd gl s (lgs T) _ _ 64 cb SB HD.out HB6.out HM6.out (fun _ p e => by cases e; exact hgb) HOW.out).mono ?_
              rintro e w7 ⟨rfl, hD7, hx7⟩
              rw [HXX.out] at hD7
              have HD7 : Bx _ := ⟨hD7⟩
              have HTI7 : Bx (TwoI w7 X (.slice (some ⟨g1, 0, none⟩) q c1) (.slice (some ⟨g2, 0, none⟩) q c2) (frI T) (szI T)) := ⟨HTI.out.keep (fun k hk => hx7.2 k hk) (fun _ h => h)⟩
              clear hD7 hx7 HD HTI HM6 HB6
              generalize s.wr ((A + (p0 + i) / 512 : Nat) : Int) SB = s7 at HD7 HHS6
              go_wp2
              go_roundw
              case rel => exact ⟨i + 1, s7, by omega, by omega, by go_num, by rw [HT.out], HHS6, HD7, HTI7⟩
              case measure => simp [intOf]; omega
            · have hbf : B.testBit i = false := by simpa using hbit
              rw [hbf] at hbs
              have HS' : Bx _ := ⟨HS.out.stay hbit⟩
              have HT : Bx (tnT B (i + 1) = tnT B i) := ⟨tnT_stay B i hbit⟩
              clear hbf hbit HS
              go_wp2
              go_roundw
              case rel => exact ⟨i + 1, s, by omega, by omega, by go_num, by rw [HT.out], HS', HD, HTI⟩
              case measure => simp [intOf]; omega
          · by_cases hi2 : i < 32
            · have g1' : decide ((i : Int) < 32) = true := decide_eq_true (by omega)
              have g2' : decide ((p0 : Int) + (i : Int) < 8 * (fl : Int)) = false := decide_eq_false (by omega)
              have ga : (i : Int) < 32 := by omega
              have gb : ¬ (p0 : Int) + (i : Int) < 8 * (fl : Int) := by omega
              have HOW : Bx (s.O.length ≤ 1000000) := ⟨by have := HS.out.ol; omega⟩
              go_wp2_with fail
              refine (dl_sync w _ X gd gl s (lgs T) HD.out HOW.out).mono ?_
              rintro e w5 ⟨rfl, hD5, hx5⟩
              have HD5 : Bx _ := ⟨hD5⟩
              have HTI5 : Bx (TwoI w5 X (.slice (some ⟨g1, 0, none⟩) q c1) (.slice (some ⟨g2, 0, none⟩) q c2) (frI T) (szI T)) := ⟨HTI.out.keep (fun k hk => hx5.2 k hk) (fun _ h => h)⟩
              obtain ⟨f1, f2, f3, f4⟩ := HS.out.first HD.out.ok
              rw [← HA.out] at f1 f2 f3 f4
              have HFN : Bx _ := ⟨HS.out.final HD.out.ok HTO.out HJT.out (by rw [← HFL.out]; exact hpi) hi 0⟩
              generalize s.syE = E5
              obtain ⟨y1, y2⟩ := HCE.out _ HTI5.out
              clear hD5 hx5 HD HTI x1 x2 HS HOW
              generalize (chk (tnL (frmL ((j : Int) + 1) (T.getD j [])) p0 B i)).getD 0 [] = SC at f2 HFN
              generalize s.sy = s5 at HD5 HFN f1 f2 f3 f4
              go_wp2_with fail
              refine (dl_read w _ X gd gl s5 (lgs T) _ HD5.out).mono ?_
              rintro e w6 ⟨v6, rfl, hown6, hb6⟩
              rw [f3] at hown6
              obtain ⟨a6, c6, rfl, hm6⟩ := Bts.of_owns hown6 f4
              rw [f2] at hm6
              rw [f1]
              have HD6 : Bx _ := ⟨HD5.out.step hb6⟩
              clear hown6 hb6 HD5 HTI5 y1 y2 f1 f2 f3 f4
              go_wp2_with (refine wpList_make_bytes rfl _ _ rfl 64 rfl rfl (by decide) ?_; intro v7 w7 H7; have hm6b := hm6.below H7.out.2; have HD7 := HD6.out.step H7.out.2; obtain ⟨a7, c7, rfl, hm7⟩ := Bts.of_owns H7.out.1 (show Byt (List.replicate 64 0) from fun c hc => by rw [List.eq_of_mem_replicate hc]; decide); clear hm6)
              refine (same_any a6 a7 64 64 c6 c7 SC (List.replicate 64 0) _ hm6b hm7).mono ?_
              rintro e w8 ⟨rfl, q8, hq8⟩
              obtain ⟨bl, hbl0⟩ : ∃ bl : Bool, decide (SC = List.replicate 64 0) = bl := ⟨_, rfl⟩
              rw [hbl0]
              have HBL : Bx (bl = decide (SC = s0)) := ⟨hbl0.symm⟩
              clear hbl0
              have HD8 : Bx (DL w w8 X gd gl s5 (lgs T)) := ⟨by rw [hq8]; exact HD7.drewN q8⟩
              clear hq8 HD7 hm6b hm7 H7 HD6
              go_wp2_with fail
              refine (dl_arm w _ X gd gl s5 (lgs T) 0 HD8.out (by decide)).mono ?_
              rintro e w9 ⟨rfl, hD9, _⟩
              have HD9 : Bx _ := ⟨hD9⟩
              clear hD9 HD8
              generalize s5.arE 0 = E9
              obtain ⟨n1, n2, n3, n4, n5, n6⟩ := HFN.out
              generalize s5.ar 0 = s9 at HD9 n1 n2 n3 n4 n5 n6
              clear HFN
              by_cases ht : tnT B i = true
              · rw [ht]
                by_cases hb0 : SC = s0
                · obtain rfl : bl = true := by rw [HBL.out]; exact decide_eq_true hb0
                  clear HBL
                  obtain ⟨k1, k2⟩ := n6 hb0
                  have hrd : rdF s9.now = some (T.take j, (FrS 0 (T.take j)).length) := by
                    have e : s9.now = s9.F := by unfold DS.now; rw [n2]; rfl
                    rw [e]; exact rd_lay HD9.out.ok.f k2 k1 HD9.out.ok.n2
                  have hO9 : s9.O.length ≤ 900000 := by rw [n2]; exact Nat.zero_le _
                  have HN1 : Bx _ := ⟨n1⟩
                  have HWL : Bx (s9.wipE (FrS 0 (T.take j)).length = 0 ∨ s9.wipE (FrS 0 (T.take j)).length = 14) := ⟨by
                    rcases wip_lay n1 n2 k1 k2 with ⟨h1, _⟩ | ⟨h1, _⟩
                    · exact .inl h1
                    · exact .inr h1⟩
                  clear n4 n5 n6 hb0 ht k1 k2 n3
                  rcases HWL.out with hE | hE
                  · go_wp2_with fail
                    refine (dd_open w _ X gd s9 (T.take j) HD9.out.dd HN1.out hO9 hrd hE).mono ?_
                    rintro e w10 ⟨gq, rfl, hD10, _⟩
                    have HLW : Bx _ := ⟨hD10.low⟩
                    clear hD10
                    go_wp2_with fail
                    refine (lives_any _).mono ?_
                    rintro e wz ⟨rfl, hbz⟩
                    have HLZ : Bx (Below w.heap.size w wz) := ⟨bstep HLW.out hbz⟩
                    clear hbz HLW
                    go_wp2
                    go_ret
                    exact ⟨rfl, HLZ.out⟩
                  · have hne : s9.wipE (FrS 0 (T.take j)).length ≠ 0 := by rw [hE]; decide
                    go_wp2_with fail
                    refine (dd_open_err w _ X gd s9 (T.take j) HD9.out.dd HN1.out hO9 hrd hne).mono ?_
                    rintro e w10 ⟨rfl, hD10, _⟩
                    rw [hE]
                    have HLW : Bx _ := ⟨hD10.low⟩
                    clear hD10 hne
                    go_wp2_with fail
                    refine (lives_any _).mono ?_
                    rintro e wz ⟨rfl, hbz⟩
                    have HLZ : Bx (Below w.heap.size w wz) := ⟨bstep HLW.out hbz⟩
                    clear hbz HLW
                    go_wp2
                    go_ret
                    exact ⟨rfl, HLZ.out⟩
                · obtain rfl : bl = false := by rw [HBL.out]; exact decide_eq_false hb0
                  clear HBL
                  have hrd := n5 ht hb0
                  have HN1 : Bx (s9.off = false) := ⟨n1⟩
                  clear n2 n3 n4 n5 n6 hb0 ht
                  go_wp2_with fail
                  refine (dd_open_sum w _ X gd s9 HD9.out.dd HN1.out hrd).mono ?_
                  rintro e w10 ⟨rfl, hb10⟩
                  have HDD : Bx _ := ⟨HD9.out.dd.step hb10⟩
                  clear hb10 hrd HD9
                  go_wp2_with fail
                  refine (dd_off w _ X gd s9 HDD.out).mono ?_
                  rintro e w' ⟨rfl, rfl⟩
                  rw [HN1.out]
                  have HLW : Bx _ := ⟨HDD.out.low⟩
                  clear HDD
                  go_wp2_with fail
                  refine (lives_any _).mono ?_
                  rintro e wz ⟨rfl, hbz⟩
                  have HLZ : Bx (Below w.heap.size w wz) := ⟨bstep HLW.out hbz⟩
                  clear hbz HLW
                  go_wp2
                  go_ret
                  exact ⟨rfl, HLZ.out⟩
              · have htf : tnT B i = false := by simpa using ht
                rw [htf]
                have HRS : Bx _ := ⟨n4 htf⟩
                clear n1 n2 n3 n4 n5 n6 ht htf
                clear HBL
                go_wp2_with fail
                refine (dl_open2 w _ X gd gl s9 T HD9.out HRS.out).mono ?_
                rintro e w10 ⟨gq, rfl, hP, hQ, _⟩
                have HP : Bx _ := ⟨hP⟩
                have HQQ : Bx _ := ⟨hQ⟩
                clear hP hQ HD9
                go_wp2_with fail
                refine (dl_texts w _ X gd gq s9 (lgs T) HQQ.out).mono ?_
                rintro e w11 ⟨v11, rfl, hT11, hb11⟩
                have HT11 : Bx _ := ⟨hT11⟩
                have HP11 : Bx _ := ⟨HP.out.step hb11⟩
                clear hT11 hb11 HP HQQ
                go_wp2_with fail
                refine (dl_texts w _ X gd gl s9 (lgs T) HP11.out).mono ?_
                rintro e w12 ⟨v12, rfl, hT12, hb12⟩
                have hT11' := HT11.out.below hb12
                obtain ⟨a11, c11, rfl, hx11⟩ := hT11'.txs
                obtain ⟨a12, c12, rfl, hx12⟩ := hT12.txs
                have HX11 : Bx _ := ⟨hx11⟩
                have HX12 : Bx _ := ⟨hx12⟩
                have HP12 : Bx _ := ⟨HP11.out.step hb12⟩
                clear hT11' hT12 hb12 hx11 hx12 HT11 HP11
                go_wp2_with fail
                refine (tsame_yes a11 a12 _ c11 c12 _ _ HX11.out HX12.out).mono ?_
                rintro e w13 ⟨rfl, q13, hq13⟩
                have HP13 : Bx (DL w w13 X gd gl s9 (lgs T)) := ⟨by rw [hq13]; exact HP12.out.drewN q13⟩
                have HLW : Bx _ := ⟨HP13.out.low⟩
                clear hq13 HP12 HP13 HX11 HX12
                go_wp2_with fail
                refine (lives_any _).mono ?_
                rintro e wz ⟨rfl, hbz⟩
                have HLZ : Bx (Below w.heap.size w wz) := ⟨bstep HLW.out hbz⟩
                clear hbz HLW
                go_wp2
                go_ret
                exact ⟨rfl, HLZ.out⟩
            · have g1' : decide ((i : Int) < 32) = false := decide_eq_false (by omega)
              have ga : ¬ (i : Int) < 32 := by omega
              have HOW : Bx (s.O.length ≤ 1000000) := ⟨by have := HS.out.ol; omega⟩
              go_wp2_with fail
              refine (dl_sync w _ X gd gl s (lgs T) HD.out HOW.out).mono ?_
              rintro e w5 ⟨rfl, hD5, hx5⟩
              have HD5 : Bx _ := ⟨hD5⟩
              have HTI5 : Bx (TwoI w5 X (.slice (some ⟨g1, 0, none⟩) q c1) (.slice (some ⟨g2, 0, none⟩) q c2) (frI T) (szI T)) := ⟨HTI.out.keep (fun k hk => hx5.2 k hk) (fun _ h => h)⟩
              obtain ⟨f1, f2, f3, f4⟩ := HS.out.first HD.out.ok
              rw [← HA.out] at f1 f2 f3 f4
              have HFN : Bx _ := ⟨HS.out.final HD.out.ok HTO.out HJT.out (by rw [← HFL.out]; exact hpi) hi 0⟩
              generalize s.syE = E5
              obtain ⟨y1, y2⟩ := HCE.out _ HTI5.out
              clear hD5 hx5 HD HTI x1 x2 HS HOW
              generalize (chk (tnL (frmL ((j : Int) + 1) (T.getD j [])) p0 B i)).getD 0 [] = SC at f2 HFN
              generalize s.sy = s5 at HD5 HFN f1 f2 f3 f4
              go_wp2_with fail
              refine (dl_read w _ X gd gl s5 (lgs T) _ HD5.out).mono ?_
              rintro e w6 ⟨v6, rfl, hown6, hb6⟩
              rw [f3] at hown6
              obtain ⟨a6, c6, rfl, hm6⟩ := Bts.of_owns hown6 f4
              rw [f2] at hm6
              rw [f1]
              have HD6 : Bx _ := ⟨HD5.out.step hb6⟩
              clear hown6 hb6 HD5 HTI5 y1 y2 f1 f2 f3 f4
              go_wp2_with (refine wpList_make_bytes rfl _ _ rfl 64 rfl rfl (by decide) ?_; intro v7 w7 H7; have hm6b := hm6.below H7.out.2; have HD7 := HD6.out.step H7.out.2; obtain ⟨a7, c7, rfl, hm7⟩ := Bts.of_owns H7.out.1 (show Byt (List.replicate 64 0) from fun c hc => by rw [List.eq_of_mem_replicate hc]; decide); clear hm6)
              refine (same_any a6 a7 64 64 c6 c7 SC (List.replicate 64 0) _ hm6b hm7).mono ?_
              rintro e w8 ⟨rfl, q8, hq8⟩
              obtain ⟨bl, hbl0⟩ : ∃ bl : Bool, decide (SC = List.replicate 64 0) = bl := ⟨_, rfl⟩
              rw [hbl0]
              have HBL : Bx (bl = decide (SC = s0)) := ⟨hbl0.symm⟩
              clear hbl0
              have HD8 : Bx (DL w w8 X gd gl s5 (lgs T)) := ⟨by rw [hq8]; exact HD7.drewN q8⟩
              clear hq8 HD7 hm6b hm7 H7 HD6
              go_wp2_with fail
              refine (dl_arm w _ X gd gl s5 (lgs T) 0 HD8.out (by decide)).mono ?_
              rintro e w9 ⟨rfl, hD9, _⟩
              have HD9 : Bx _ := ⟨hD9⟩
              clear hD9 HD8
              generalize s5.arE 0 = E9
              obtain ⟨n1, n2, n3, n4, n5, n6⟩ := HFN.out
              generalize s5.ar 0 = s9 at HD9 n1 n2 n3 n4 n5 n6
              clear HFN
              by_cases ht : tnT B i = true
              · rw [ht]
                by_cases hb0 : SC = s0
                · obtain rfl : bl = true := by rw [HBL.out]; exact decide_eq_true hb0
                  clear HBL
                  obtain ⟨k1, k2⟩ := n6 hb0
                  have hrd : rdF s9.now = some (T.take j, (FrS 0 (T.take j)).length) := by
                    have e : s9.now = s9.F := by unfold DS.now; rw [n2]; rfl
                    rw [e]; exact rd_lay HD9.out.ok.f k2 k1 HD9.out.ok.n2
                  have hO9 : s9.O.length ≤ 900000 := by rw [n2]; exact Nat.zero_le _
                  have HN1 : Bx _ := ⟨n1⟩
                  have HWL : Bx (s9.wipE (FrS 0 (T.take j)).length = 0 ∨ s9.wipE (FrS 0 (T.take j)).length = 14) := ⟨by
                    rcases wip_lay n1 n2 k1 k2 with ⟨h1, _⟩ | ⟨h1, _⟩
                    · exact .inl h1
                    · exact .inr h1⟩
                  clear n4 n5 n6 hb0 ht k1 k2 n3
                  rcases HWL.out with hE | hE
                  · go_wp2_with fail
                    refine (dd_open w _ X gd s9 (T.take j) HD9.out.dd HN1.out hO9 hrd hE).mono ?_
                    rintro e w10 ⟨gq, rfl, hD10, _⟩
                    have HLW : Bx _ := ⟨hD10.low⟩
                    clear hD10
                    go_wp2_with fail
                    refine (lives_any _).mono ?_
                    rintro e wz ⟨rfl, hbz⟩
                    have HLZ : Bx (Below w.heap.size w wz) := ⟨bstep HLW.out hbz⟩
                    clear hbz HLW
                    go_wp2
                    go_ret
                    exact ⟨rfl, HLZ.out⟩
                  · have hne : s9.wipE (FrS 0 (T.take j)).length ≠ 0 := by rw [hE]; decide
                    go_wp2_with fail
                    refine (dd_open_err w _ X gd s9 (T.take j) HD9.out.dd HN1.out hO9 hrd hne).mono ?_
                    rintro e w10 ⟨rfl, hD10, _⟩
                    rw [hE]
                    have HLW : Bx _ := ⟨hD10.low⟩
                    clear hD10 hne
                    go_wp2_with fail
                    refine (lives_any _).mono ?_
                    rintro e wz ⟨rfl, hbz⟩
                    have HLZ : Bx (Below w.heap.size w wz) := ⟨bstep HLW.out hbz⟩
                    clear hbz HLW
                    go_wp2
                    go_ret
                    exact ⟨rfl, HLZ.out⟩
                · obtain rfl : bl = false := by rw [HBL.out]; exact decide_eq_false hb0
                  clear HBL
                  have hrd := n5 ht hb0
                  have HN1 : Bx (s9.off = false) := ⟨n1⟩
                  clear n2 n3 n4 n5 n6 hb0 ht
                  go_wp2_with fail
                  refine (dd_open_sum w _ X gd s9 HD9.out.dd HN1.out hrd).mono ?_
                  rintro e w10 ⟨rfl, hb10⟩
                  have HDD : Bx _ := ⟨HD9.out.dd.step hb10⟩
                  clear hb10 hrd HD9
                  go_wp2_with fail
                  refine (dd_off w _ X gd s9 HDD.out).mono ?_
                  rintro e w' ⟨rfl, rfl⟩
                  rw [HN1.out]
                  have HLW : Bx _ := ⟨HDD.out.low⟩
                  clear HDD
                  go_wp2_with fail
                  refine (lives_any _).mono ?_
                  rintro e wz ⟨rfl, hbz⟩
                  have HLZ : Bx (Below w.heap.size w wz) := ⟨bstep HLW.out hbz⟩
                  clear hbz HLW
                  go_wp2
                  go_ret
                  exact ⟨rfl, HLZ.out⟩
              · have htf : tnT B i = false := by simpa using ht
                rw [htf]
                have HRS : Bx _ := ⟨n4 htf⟩
                clear n1 n2 n3 n4 n5 n6 ht htf
                clear HBL
                go_wp2_with fail
                refine (dl_open2 w _ X gd gl s9 T HD9.out HRS.out).mono ?_
                rintro e w10 ⟨gq, rfl, hP, hQ, _⟩
                have HP : Bx _ := ⟨hP⟩
                have HQQ : Bx _ := ⟨hQ⟩
                clear hP hQ HD9
                go_wp2_with fail
                refine (dl_texts w _ X gd gq s9 (lgs T) HQQ.out).mono ?_
                rintro e w11 ⟨v11, rfl, hT11, hb11⟩
                have HT11 : Bx _ := ⟨hT11⟩
                have HP11 : Bx _ := ⟨HP.out.step hb11⟩
                clear hT11 hb11 HP HQQ
                go_wp2_with fail
                refine (dl_texts w _ X gd gl s9 (lgs T) HP11.out).mono ?_
                rintro e w12 ⟨v12, rfl, hT12, hb12⟩
                have hT11' := HT11.out.below hb12
                obtain ⟨a11, c11, rfl, hx11⟩ := hT11'.txs
                obtain ⟨a12, c12, rfl, hx12⟩ := hT12.txs
                have HX11 : Bx _ := ⟨hx11⟩
                have HX12 : Bx _ := ⟨hx12⟩
                have HP12 : Bx _ := ⟨HP11.out.step hb12⟩
                clear hT11' hT12 hb12 hx11 hx12 HT11 HP11
                go_wp2_with fail
                refine (tsame_yes a11 a12 _ c11 c12 _ _ HX11.out HX12.out).mono ?_
                rintro e w13 ⟨rfl, q13, hq13⟩
                have HP13 : Bx (DL w w13 X gd gl s9 (lgs T)) := ⟨by rw [hq13]; exact HP12.out.drewN q13⟩
                have HLW : Bx _ := ⟨HP13.out.low⟩
                clear hq13 HP12 HP13 HX11 HX12
                go_wp2_with fail
                refine (lives_any _).mono ?_
                rintro e wz ⟨rfl, hbz⟩
                have HLZ : Bx (Below w.heap.size w wz) := ⟨bstep HLW.out hbz⟩
                clear hbz HLW
                go_wp2
                go_ret
                exact ⟨rfl, HLZ.out⟩

set_option maxRecDepth 100000 in
theorem lifted (os : Os) (started : os.Started) (H : Type) (enc : TypeId × Value → H) :
    ReturnsInHanded {} Try.checked os 6 .any (Rows.walHaltsSpec.pre6 enc Try.prog Try.f6 Rows.walHaltsRow.domain false) (Rows.walHaltsSpec.post enc Try.prog Try.f6 false true false false) := by
  refine returnsInHanded_of_change (C := Try.checked) own started (by kernel_rfl) Try.func6
    (ChangeSpec.witness6 (enc := enc) (C := Try.checked) false ⟨#[], #[.slice none 0 0, .int .i64 0, .int .i64 0, .int .u32 0], []⟩ 8 (by kernel_rfl) (by kernel_rfl) (by kernel_rfl) (by kernel_rfl)) ?_
  intro W base args ds gs before hval0 hW hcnd _
  have hval : ∀ (j : Nat) t v, Try.f6.params[j]? = some t → args[j]? = some v → Value.okWide Try.prog W .any base t v := hval0
  have hW' := hW
  obtain ⟨p, q, hA0, hV, rfl, hfz, hnd⟩ := hW
  have hA : DataW.TrodAll enc Try.prog W 0 (fun _ => true) true Try.f6.params.toList args.toList ds p := hA0
  rw [Try.params6] at hA hval
  obtain ⟨v0, vs0, d0, ds0, p0, q0, hargs, rfl, rfl, h0, r0⟩ := trodAll_cons hA
  obtain ⟨v1, vs1, d1, ds1, p1, q1, rfl, rfl, rfl, h1, r1⟩ := trodAll_cons r0
  obtain ⟨v2, vs2, d2, ds2, p2, q2, rfl, rfl, rfl, h2, r2⟩ := trodAll_cons r1
  obtain ⟨v3, vs3, d3, ds3, p3, q3, rfl, rfl, rfl, h3, r3⟩ := trodAll_cons r2
  obtain ⟨rfl, rfl, rfl⟩ := trodAll_nil r3
  obtain rfl : args = #[v0, v1, v2, v3] := by cases args; simp_all
  obtain ⟨rfl, rfl⟩ := trodVars_none hV
  obtain ⟨a0, len0, cap0, rfl⟩ := okWide_slice Try.underlying22 (hval 0 22 v0 rfl rfl)
  have k0 := h0
  have lt0 : ∀ x ∈ p0, x.block < W.heap.size := by obtain ⟨m, hm⟩ := k0; exact DataW.trod_lt m _ _ _ hm
  have k1 := h1
  have lt1 : ∀ x ∈ p1, x.block < W.heap.size := by obtain ⟨m, hm⟩ := k1; exact DataW.trod_lt m _ _ _ hm
  have k2 := h2
  have lt2 : ∀ x ∈ p2, x.block < W.heap.size := by obtain ⟨m, hm⟩ := k2; exact DataW.trod_lt m _ _ _ hm
  have k3 := h3
  have lt3 : ∀ x ∈ p3, x.block < W.heap.size := by obtain ⟨m, hm⟩ := k3; exact DataW.trod_lt m _ _ _ hm
  obtain ⟨L, hL⟩ := open_dos h0
  obtain ⟨wh, rfl, hwh⟩ := open_i64 (hval 1 3 v1 rfl rfl) h1
  obtain ⟨at0, rfl, hat0⟩ := open_i64 (hval 2 3 v2 rfl rfl) h2
  obtain ⟨bb, rfl, hbb⟩ := open_u32 (hval 3 65 v3 rfl rfl) h3
  clear hA0 hval0
  refine (walk a0 len0 cap0 L wh at0 bb W hL hwh hat0 hbb).mono fun e W' ⟨he, bel⟩ => ?_
  subst he
  exact ⟨_, rfl, _, _, _, [], _, [], hW', trodAll_mk1 (shut_bool Try.underlying4 _), (trodAll_cons_mk (Below.trod laidOut (by kernel_rfl) (of_decide_eq_true (by kernel_rfl)) k0 bel lt0) (trodAll_cons_mk (Below.trod laidOut (by kernel_rfl) (of_decide_eq_true (by kernel_rfl)) k1 bel lt1) (trodAll_cons_mk (Below.trod laidOut (by kernel_rfl) (of_decide_eq_true (by kernel_rfl)) k2 bel lt2) (trodAll_cons_mk (Below.trod laidOut (by kernel_rfl) (of_decide_eq_true (by kernel_rfl)) k3 bel lt3) trodAll_mk0)))), rfl, bel.frame _, fun h => by cases h⟩

theorem over : Rows.walHaltsRow.holds Try.pinned (OpenSpec.ofChange Rows.walHaltsSpec) :=
  OpenClaim.holds_of_wide 6 Try.f6 rfl rfl rfl rfl rfl rfl rfl ⟨rfl, rfl, rfl, rfl, rfl⟩ rfl rfl rfl rfl rfl (by kernel_rfl) Try.func6 (by kernel_rfl)
    (of_decide_eq_true (by kernel_rfl)) (by unfold Func.isWrapper; first | (rw [if_pos (by decide +kernel)]; kernel_rfl) | (rw [if_neg (by decide +kernel)]; exact ⟨rfl, rfl⟩))
    (fun os started H enc _ => lifted os started H enc)

/-- the statement -/
theorem proved : Rows.WalHaltsSaid := over
end Go.Proofs.Ytigaciflbgbolaa.walHalts
namespace Go.Proofs.Ytigaciflbgbolaa
theorem walHalts_holds : Rows.WalHaltsSaid := walHalts.proved
#print axioms walHalts_holds
end Go.Proofs.Ytigaciflbgbolaa
