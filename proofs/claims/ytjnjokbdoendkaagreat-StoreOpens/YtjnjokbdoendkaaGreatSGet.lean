/- Get, Room; pairs in new memory. -/
import Derived.Test.YtjnjokbdoendkaaGreatSco
namespace Go.Proofs.YtjnjokbdoendkaaGreat
open Go.RowKit
set_option linter.unusedVariables false

set_option maxRecDepth 100000 in
theorem Tryz.infoP : (Tryz.prog.info? 114).map (fun i => (i.zero, i.size, i.bytes)) = some (some (.agg #[.string ⟨#[]⟩, .slice none 0 0]), 2, 40) := by kernel_rfl
set_option maxRecDepth 100000 in
theorem bless_eq : ∀ (x y : List UInt8), Op.bytesLess x y = decide (x < y)
  | x, [] => by simp [Op.bytesLess]
  | [], b :: y => by simp [Op.bytesLess]
  | a :: x, b :: y => by simp [Op.bytesLess, bless_eq x y, List.cons_lt_cons_iff]; rfl
set_option maxRecDepth 100000 in
theorem bless (a b : ByteArray) : Op.bytesLess a.toList b.toList = decide (klt a b) := by rw [Lib.toList_data, Lib.toList_data, bless_eq]
set_option maxRecDepth 100000 in
theorem beql (a b : ByteArray) : (a.toList == b.toList) = decide (a = b) := by
  rw [Lib.toList_data, Lib.toList_data]
  by_cases h : a = b
  · rw [h]; simp
  · rw [decide_eq_false h]
    exact beq_eq_false_iff_ne.2 fun e => h (key_eq e)
set_option maxRecDepth 100000 in
/-- 'a > b' -/
theorem bgtr (a b : ByteArray) : (!(Op.bytesLess a.toList b.toList || a.toList == b.toList)) = decide (klt b a) := by
  rw [bless, beql]
  by_cases h1 : klt b a
  · rw [decide_eq_true h1, decide_eq_false (klt_asymm h1), decide_eq_false (fun e => klt_ne h1 e.symm)]; rfl
  · rw [decide_eq_false h1]
    by_cases h2 : klt a b
    · rw [decide_eq_true h2]; rfl
    · have h3 : a = b := Decidable.byContradiction fun hn => h1 (klt_tri h2 hn)
      rw [decide_eq_true h3]; simp
set_option maxRecDepth 100000 in
theorem gtM_len {M : List Pr} (hm : MOk M) (k : ByteArray) : ((gtM M k).getD []).length ≤ 4096 := by
  cases h : gtM M k with
  | none => simp
  | some v =>
    have h1 := gtM_mem h
    exact hm.v _ h1
set_option maxRecDepth 100000 in
set_option maxHeartbeats 1000000 in
theorem get_any (gs gl : Nat) (q us : Int) (own : Nat → Prop) (M : List Pr) (k : ByteArray) (w : World) (h : St w gs gl q us own M) :
    Calls Tryz.prog 31 #[.pointer (some ⟨gs, 0, none⟩), .string k] w fun e w' => ∃ v, e = .returned (.tuple #[v, .bool (gtM M k).isSome]) ∧ w'.ownsRow w.heap.size 5 1 v ((gtM M k).getD []).length (bv ((gtM M k).getD [])) ∧ Below w.heap.size w w' := by
  obtain ⟨gm, es, clock, Z, hr⟩ := h
  have H0 := Bx.mk hr.c0
  have c2 := hr.c2
  obtain ⟨a, n, c, b, hlk, hbt, hbb⟩ := hr.look k
  have hlen := gtM_len hr.mo k
  have HLE : Bx (((gtM M k).getD []).length = n) := ⟨hbt.len_eq⟩
  have HBT := Bx.mk hbt
  have HBB := Bx.mk hbb
  clear hr hbt hbb
  rw [HLE.out] at hlen
  go_enter Tryz.func31, Tryz.ntmps31
  go_wp2_with fail
  refine (smade_yes gs gl _ H0.out).mono ?_
  rintro e w' ⟨rfl, rfl⟩
  go_wp2_with fail
  refine (clone_any a n c _ _ HBT.out (by omega)).mono ?_
  rintro e w' ⟨v, rfl, hown, hb⟩
  have HF : Bx (w'.ownsRow w.heap.size 5 1 v ((gtM M k).getD []).length (bv ((gtM M k).getD []))) := ⟨by rw [HLE.out]; exact hown⟩
  obtain ⟨a9, n9, c9, rfl⟩ := own_form hown
  clear hown hlk
  go_wp2_with fail
  exact bodyPost_ret (v := .tuple #[.slice a9 n9 c9, .bool b]) (by simp [results, Tryz.results31, go_sem]) rfl ⟨_, by rw [HBB.out], HF.out, hb⟩
set_option maxRecDepth 100000 in
/-- a pair of a list -/
theorem RT.pr {B : Nat → Prop} {w : World} {ao : Option Addr} {len cap : Nat} {L : List Pr} (h : PT B w ao len cap L) (i : Nat) (hi : i < len) : ∃ b off ai ni ci, ao = some ⟨b, off, none⟩ ∧ b < w.heap.size ∧ B b ∧
    w.cell? ⟨b, off + i * 2, none⟩ = some (.string (L[i]'(by rw [h.len_eq]; exact hi)).1) ∧ w.cell? ⟨b, off + i * 2 + 1, none⟩ = some (.slice ai ni ci) ∧
    Bts w ai ni ci (L[i]'(by rw [h.len_eq]; exact hi)).2 ∧ (0 < ni → ∀ p, ai = some p → B p.block) := by
  obtain ⟨b, off, e, hlt, hB, hc⟩ := h.spot (by omega)
  obtain ⟨z, h1, h2, h3, h4⟩ := hc i hi
  have hi2 : i < L.length := by rw [h.len_eq]; exact hi
  have e1 : L[i] = z.x := by rw [List.getElem?_eq_getElem hi2] at h1; exact Option.some.inj h1
  refine ⟨b, off, z.a, z.n, z.c, e, hlt, hB, ?_, ?_, ?_, h4⟩
  · rw [e1]; exact h2 0 (by omega)
  · exact h2 1 (by omega)
  · rw [e1]; exact h3
set_option maxRecDepth 100000 in
set_option maxHeartbeats 4000000 in
set_option maxRecDepth 100000 in
theorem copied_any (ao : Option Addr) (len cap : Nat) (B : Nat → Prop) (L : List Pr) (w : World) (h : PT B w ao len cap L) (hvs : ∀ p ∈ L, p.2.length ≤ 4200) (hle : len ≤ 1000000) :
    Calls Tryz.prog 90 #[.slice ao len cap] w fun e w' => ∃ v, e = .returned v ∧ PL w' (fun k => w.heap.size ≤ k ∧ k < w'.heap.size) v L ∧ Below w.heap.size w w' := by
  have HLW : Bx (PT (fun k => k < w.heap.size) w ao len cap L) := ⟨h.low⟩
  have HVS := Bx.mk hvs
  have HLEN : Bx (L.length = len) := ⟨h.len_eq⟩
  have hcl := h.le_cap
  have hcm := h.cap_le
  unfold maxLen at hcm
  clear h hvs
  go_enter Tryz.func90, Tryz.ntmps90
  go_wp2_with fail
  go_loopw [3, 8] (fun v i wr => ∃ k : Nat, k ≤ len ∧ i = .int .i64 k ∧ Bx (PL wr (fun k => w.heap.size ≤ k) v (L.take k)) ∧ Below w.heap.size w wr) (fun _ i _ => len - (intOf i).toNat)
  case atStart => exact ⟨0, Nat.zero_le _, rfl, ⟨by rw [List.take_zero]; exact RL.nil _ _⟩, Below.refl _ _⟩
  case round =>
    obtain ⟨k, hk, rfl, HP, hbw⟩ := hrel
    obtain ⟨vP, hvP⟩ : ∃ x, x = u3 := ⟨_, rfl⟩
    subst hvP
    by_cases hlt : k < len
    · have hkI : (k : Int) < (len : Int) := by omega
      have hkL : k < L.length := by rw [HLEN.out]; exact hlt
      have HST : Bx (L.take (k + 1) = L.take k ++ [L[k]]) := ⟨List.take_succ_eq_append_getElem hkL⟩
      have HPL : Bx (k = (L.take k).length) := ⟨by rw [List.length_take]; omega⟩
      have hval := HVS.out _ (List.getElem_mem hkL)
      obtain ⟨b, off, ai, ni, ci, rfl, hbl, hblw, h1, h2, hbt, hlo⟩ := (HLW.out.stay hbw).pr k hlt
      generalize hcc : L[k] = cc at h1 hbt hval HST
      obtain ⟨kk, vv⟩ := cc
      simp only at h1 hbt hval
      generalize L.take k = P at HST HP HPL
      obtain ⟨gc, HGC⟩ : ∃ gc, Bx (gc = wr.heap.size) := ⟨_, ⟨rfl⟩⟩
      have hni : ni ≤ 4200 := by rw [← hbt.len_eq]; exact hval
      have HGV : Bx (∀ j, vP.ownBlock = some j → j ≠ gc) := ⟨fun j hj => by have := HP.out.lt hj; have := HGC.out; omega⟩
      have hba : Below wr.heap.size wr (wr.alloc (.cells #[.string kk, .slice ai ni ci] 114)) := (Below.refl _ _).alloc (Nat.le_refl _) _
      have hra := heap_alloc_new wr (.cells #[.string kk, .slice ai ni ci] 114)
      rw [← HGC.out] at hra
      have HRA0 := Bx.mk hra
      have HBT := Bx.mk (hbt.below hba)
      have HBW := Bx.mk (bstep hbw hba)
      replace HP := Bx.mk (HP.out.below hba)
      clear hcc hbt hlo hbw hval hba hra
      go_wp2_with fail
      rw [← HGC.out]
      generalize wr.alloc (.cells #[.string kk, .slice ai ni ci] 114) = ws at HRA0 HBT HBW HP ⊢
      clear h1 h2 hblw hbl HGC
      have hk := HRA0.out
      obtain ⟨i0, hi, hz0, hz1, hz2⟩ := info_parts Tryz.infoP
      have HBD : Bx (Below ws.heap.size ws ws) := ⟨Below.refl _ _⟩
      refine wp_region_held_drew (S := fun W => W.heap[gc]? = some (.cells #[.string kk, .slice ai ni ci] 114 (0, 0))) (by kernel_rfl) hk (fun _ => ?_)
      have hgl := (Array.getElem?_eq_some_iff.1 HRA0.out).1
      generalize hwd : ws.drew = wd
      replace HP : Bx (PL wd _ _ _) := ⟨by rw [← hwd]; exact HP.out.drewN 1⟩
      replace HBT : Bx (Bts wd _ _ _ _) := ⟨by rw [← hwd]; exact HBT.out.keep (fun _ _ _ => rfl) (Nat.le_refl _)⟩
      replace HBW : Bx (Below w.heap.size w wd) := ⟨by rw [← hwd]; exact ⟨HBW.out.os, HBW.out.tape, HBW.out.output, HBW.out.size, HBW.out.block⟩⟩
      replace hk : wd.heap[gc]? = some (.cells #[.string kk, .slice ai ni ci] 114 (0, 0)) := by rw [← hwd]; exact hk
      clear hwd HRA0 HBD
      refine wpAnyH_take (i := 0) (oi := ⟨some 12, .move (.tmp 3), 60, "store.go:254", #[], none⟩) (v := ?vcpd51) rfl (by kernel_rfl) (by kernel_rfl) (by kernel_rfl) (fun _ _ _ h => h) (Or.inl ⟨by rfl, ?ycpd51⟩) hk ?rcpd51
      case ycpd51 => (intro w hSw; (try dsimp only at hSw); go_simp; first | done | with_reducible rfl)
      simp only [Act.put, List.setIfInBounds_toArray, List.set_cons_zero, List.set_cons_succ]
      refine wpAnyH_take (i := 1) (oi := ⟨some 13, .fieldAddr 114 (.tmp 5) 0, 0, "store.go:254", #[], none⟩) (v := ?vcpd52) rfl (by kernel_rfl) (by kernel_rfl) (by kernel_rfl) (fun _ _ _ h => h) (Or.inl ⟨by rfl, ?ycpd52⟩) hk ?rcpd52
      case ycpd52 => (intro w hSw; (try dsimp only at hSw); go_simp; first | done | with_reducible rfl)
      simp only [Act.put, List.setIfInBounds_toArray, List.set_cons_zero, List.set_cons_succ]
      refine wpAnyH_take (i := 2) (oi := ⟨some 14, .load 9 (.tmp 13), 9, "store.go:254", #[⟨1, .data⟩], none⟩) (v := ?vcpd53) rfl (by kernel_rfl) (by kernel_rfl) (by kernel_rfl) (fun _ _ _ h => h) (Or.inl ⟨by rfl, ?ycpd53⟩) hk ?rcpd53
      case ycpd53 => (intro w hSw; have hcw := ((cell_of_row w gc 0 _ _ (0, 0) hSw).trans rfl : w.cell? ⟨gc, 0, none⟩ = some (.string kk)); clear hSw; go_simp; first | done | with_reducible rfl)
      simp only [Act.put, List.setIfInBounds_toArray, List.set_cons_zero, List.set_cons_succ]
      refine wpAnyH_take (i := 3) (oi := ⟨some 15, .fieldAddr 114 (.tmp 5) 1, 0, "store.go:254", #[], none⟩) (v := ?vcpd54) rfl (by kernel_rfl) (by kernel_rfl) (by kernel_rfl) (fun _ _ _ h => h) (Or.inl ⟨by rfl, ?ycpd54⟩) hk ?rcpd54
      case ycpd54 => (intro w hSw; (try dsimp only at hSw); go_simp; first | done | with_reducible rfl)
      simp only [Act.put, List.setIfInBounds_toArray, List.set_cons_zero, List.set_cons_succ]
      refine wpAnyH_take (i := 4) (oi := ⟨some 16, .load 46 (.tmp 15), 46, "store.go:254", #[⟨3, .data⟩], none⟩) (v := ?vcpd55) rfl (by kernel_rfl) (by kernel_rfl) (by kernel_rfl) (fun _ _ _ h => h) (Or.inl ⟨by rfl, ?ycpd55⟩) hk ?rcpd55
      case ycpd55 => (intro w hSw; have hcw := ((cell_of_row w gc 1 _ _ (0, 0) hSw).trans rfl : w.cell? ⟨gc, 1, none⟩ = some (.slice ai ni ci)); clear hSw; go_simp; first | done | with_reducible rfl)
      simp only [Act.put, List.setIfInBounds_toArray, List.set_cons_zero, List.set_cons_succ]
      refine wpAnyH_ready (rs := [5]) (by decide +kernel) (by simp) ?_
      refine AllReadyH.cons (o := ⟨some 17, .call { callee := .value (.func 56), args := #[.tmp 16], argTypes := #[46] }, 46, "store.go:254", #[⟨4, .data⟩], none⟩) rfl (fun K hK => ?_) AllReadyH.nil
      go_simp
      refine (clone_any ai ni ci vv _ HBT.out (by omega)).mono ?_
      rintro e7 w7 ⟨v7, rfl, hown7, hb7⟩
      obtain ⟨a7, c7, rfl, hm7⟩ := Bts.of_owns hown7 HBT.out.byt
      have HM7 := Bx.mk hm7
      have HN7 : Bx (0 < ni → ∀ q, a7 = some q → w.heap.size ≤ q.block ∧ vP.ownBlock ≠ some q.block ∧ Unf w7 q.block) := ⟨fun h0 q e => by
        have h1 := (own_ge hown7 q e).1
        have h2 := HBW.out.size
        refine ⟨by omega, fun e2 => ?_, own_unf hown7 q e⟩
        have h3 := HP.out.lt e2
        omega⟩
      replace hk := (hb7.block gc (Array.getElem?_eq_some_iff.1 hk).1).trans hk
      replace HP := Bx.mk (HP.out.below hb7)
      replace HBW := Bx.mk (bstep HBW.out hb7)
      clear hown7 hb7 hm7 HBT
      refine hK.out _ _ hk (fun _ => ?_)
      clear hK K
      try simp only [Act.put, List.setIfInBounds_toArray, List.set_cons_zero, List.set_cons_succ]
      refine wpAnyH_take (i := 6) (oi := ⟨some 18, .build 114 #[(0, .tmp 14), (1, .tmp 17)], 114, "store.go:254", #[⟨2, .data⟩, ⟨5, .data⟩], none⟩) (v := ?vcpd56) rfl (by kernel_rfl) (by kernel_rfl) (by kernel_rfl) (fun _ _ _ h => h) (Or.inl ⟨by rfl, ?ycpd56⟩) hk ?rcpd56
      case ycpd56 => (intro w hSw; (try dsimp only at hSw); go_simp; first | done | with_reducible rfl)
      simp only [Act.put, List.setIfInBounds_toArray, List.set_cons_zero, List.set_cons_succ]
      refine wpAnyH_ready (rs := [7]) (by decide +kernel) (by simp) ?_
      refine AllReadyH.cons (o := ⟨some 19, .buildSlice 60 1 #[(0, .tmp 18)], 60, "store.go:254", #[⟨6, .data⟩], none⟩) rfl (fun K hK => ?_) AllReadyH.nil
      go_simp
      have hbA : Below w7.heap.size w7 (w7.alloc (.cells #[.string kk, .slice a7 ni c7] 114)) := (Below.refl _ _).alloc (Nat.le_refl _) _
      have HNW := Bx.mk (World.news_of_block (heap_alloc_new w7 (.cells #[.string kk, .slice a7 ni c7] 114)))
      replace hk := (hbA.block gc (Array.getElem?_eq_some_iff.1 hk).1).trans hk
      replace HP := Bx.mk (HP.out.below hbA)
      replace HBW := Bx.mk (bstep HBW.out hbA)
      replace HN7 : Bx (0 < ni → ∀ q, a7 = some q → w.heap.size ≤ q.block ∧ vP.ownBlock ≠ some q.block ∧ Unf (w7.alloc (.cells #[.string kk, .slice a7 ni c7] 114)) q.block) := ⟨fun h0 q e => ⟨(HN7.out h0 q e).1, (HN7.out h0 q e).2.1, (HN7.out h0 q e).2.2.keep (hbA.block _ (HM7.out.lt h0 e))⟩⟩
      replace HM7 := Bx.mk (HM7.out.below hbA)
      clear hbA
      generalize w7.heap.size = G at HNW ⊢
      generalize w7.alloc (.cells #[.string kk, .slice a7 ni c7] 114) = w8 at hk HNW HP HBW HM7 HN7 ⊢
      refine hK.out _ _ hk (fun _ => ?_)
      clear hK K
      try simp only [Act.put, List.setIfInBounds_toArray, List.set_cons_zero, List.set_cons_succ]
      refine wpAnyH_ready (rs := [8]) (by decide +kernel) (by simp) ?_
      refine AllReadyH.cons (o := ⟨some 20, .call { callee := .builtin Builtin.append, args := #[.tmp 12, .tmp 19], argTypes := #[60, 60] }, 60, "store.go:254", #[⟨0, .data⟩, ⟨7, .data⟩, ⟨5, .chain⟩], none⟩) rfl (fun K hK => ?_) AllReadyH.nil
      obtain ⟨Z, hown, HRA⟩ := HP.out.open
      rw [← HPL.out] at hown
      have HVK : Bx (∀ j, vP.ownBlock = some j → w.heap.size ≤ j) := ⟨fun j hj => HP.out.ob j hj⟩
      refine step_append_lies _ rfl (.tmp 12) (.tmp 19) 60 rfl 0 114 i0 (.agg #[.string ⟨#[]⟩, .slice none 0 0]) 2 40 Tryz.underlying60 hi hz0 hz1 hz2 rfl (by decide) _ k (Z.flatMap prE) rfl hown ⟨G, 0, none⟩ 1 1 [.string kk, .slice a7 ni c7] rfl rfl HNW.out (by simp [Value.oneCell']) (by decide) (by unfold maxLen; omega) (by omega) (Nat.zero_le _) _ rfl ?_
      intro g4 cap4 w4 hown4 hgr4 hl4 hlt4
      have hl5 : vP.ownBlock = some g4 ∨ w8.heap.size ≤ g4 := by
        rcases hl4 with h1 | h1
        · exact .inl h1
        · exact .inr (by omega)
      have hg4 : w.heap.size ≤ g4 := by
        rcases hl5 with h1 | h1
        · exact HVK.out g4 h1
        · have := HBW.out.size; omega
      have HP4 : Bx (PL w4 (fun k => w.heap.size ≤ k) (.slice (some ⟨g4, 0, none⟩) (k + 1) cap4) (L.take (k + 1))) := ⟨by
        rw [HST.out]
        exact HRA.out.done (z := ⟨(kk, vv), a7, ni, c7⟩) HPL.out rfl HM7.out HN7.out (Below.refl _ _) hown4 hgr4 hl5 (fun _ h => h) hg4⟩
      have hK4 : Below w.heap.size w w4 := HBW.out.grown hgr4 HBW.out.size (fun j hj => HVK.out j hj)
      have HK4 := Bx.mk hK4
      replace hk := (hgr4.block gc (Array.getElem?_eq_some_iff.1 hk).1 (fun e => HGV.out gc e.symm rfl)).trans hk
      clear hown hown4 hgr4 hl4 hl5 HNW HVK HRA HM7 HN7 HBW HP hg4 hlt4 hK4
      refine hK.out _ _ hk (fun _ => ?_)
      clear hK K
      try simp only [Act.put, List.setIfInBounds_toArray, List.set_cons_zero, List.set_cons_succ]
      refine wpAnyH_take (i := 9) (oi := ⟨some 3, .assign (.tmp 20), 60, "store.go:254", #[⟨8, .data⟩, ⟨8, .chain⟩, ⟨0, .phase⟩, ⟨1, .phase⟩, ⟨2, .phase⟩, ⟨3, .phase⟩, ⟨4, .phase⟩, ⟨5, .phase⟩, ⟨6, .phase⟩, ⟨7, .phase⟩, ⟨8, .phase⟩], none⟩) (v := ?vcpd57) rfl (by kernel_rfl) (by kernel_rfl) (by kernel_rfl) (fun _ _ _ h => h) (Or.inl ⟨by rfl, ?ycpd57⟩) hk ?rcpd57
      case ycpd57 => (intro w hSw; (try dsimp only at hSw); go_simp; first | done | with_reducible rfl)
      simp only [Act.put, List.setIfInBounds_toArray, List.set_cons_zero, List.set_cons_succ]
      refine wpAnyH_done (by decide +kernel) ?_ _
      clear hk hi hz0 hz1 hz2
      go_wp2_with fail
      go_roundw
      case rel => exact ⟨k + 1, by omega, by go_num, HP4, HK4.out⟩
      case measure => simp [intOf]; omega
    · have hc : ¬ (k : Int) < (len : Int) := by omega
      have HF : Bx (PL wr (fun k => w.heap.size ≤ k ∧ k < wr.heap.size) vP L) := ⟨(HP.out.mono (fun j hj ho => ⟨ho, hj⟩)).list (List.take_of_length_le (by rw [HLEN.out]; omega))⟩
      obtain ⟨aP, cP, hv9, _⟩ := HF.out.form
      subst hv9
      clear HP
      go_wp2_with fail
      go_ret
      exact ⟨_, rfl, HF.out, hbw⟩
end Go.Proofs.YtjnjokbdoendkaaGreat
