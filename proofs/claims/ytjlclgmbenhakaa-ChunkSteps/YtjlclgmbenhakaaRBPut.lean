/- The document's own reader: its Put. -/
import Derived.Test.YtjlclgmbenhakaaRBody
import Derived.Deep.CutRange
namespace Go.Proofs.Ytjlclgmbenhakaa
open Go.RowKit
set_option linter.unusedVariables false

set_option maxRecDepth 100000 in
set_option maxHeartbeats 2000000 in
theorem xput_any (g : Nat) (own : Nat → Prop) (m N : Nat) (s : CS) (b : Int) (w : World) (h : Xd w g own m s N) (hN : N ≤ 100000) (hb : 0 ≤ b ∧ b ≤ 255) :
    Calls Try.prog 14 #[.pointer (some ⟨g, 0, none⟩), .int .u8 b] w fun e w' => e = .returned (.tuple #[.bool (ptD m s b), .int .i64 (stp m s b).2]) ∧ ∃ own', Xd w' g own' m (ptS m s b) (N + 1) ∧ Did own w w' own' := by
  obtain ⟨hm, B, ended, v, hR, hI, hBN⟩ := h
  have c2 := hR.c2
  have HR := Bx.mk hR
  have HI := Bx.mk hI
  cases ended with
  | true =>
    have h10 := hI.no rfl
    have HS : Bx (stp m s b = (s, 20)) := ⟨stp_over b h10⟩
    have HP : Bx (ptS m s b = s) := ⟨ptS_over b h10⟩
    have HD : Bx (ptD m s b = false) := ⟨by unfold ptD; simp; omega⟩
    clear hR hI h10
    go_enter Try.func14, Try.ntmps14
    go_wp2
    go_ret2
    exact ⟨by rw [HS.out, HD.out]; rfl, own, ⟨hm, B, true, v, HR.out, by rw [HP.out]; exact HI.out, by omega⟩, Did.same (Kept.refl _ _)⟩
  | false =>
    obtain ⟨hp, _⟩ := hI.go rfl
    obtain ⟨NB, hNB⟩ : ∃ n, n = B.length := ⟨_, rfl⟩
    have hvr := hR.vr
    have hby := hR.byt
    rw [← hNB] at hvr hBN
    obtain ⟨av, cv, rfl, hbt⟩ := Bts.of_owns hvr hby
    have HB := Bx.mk hbt
    have HNB := Bx.mk hNB
    have HGL := Bx.mk (hR.lt g hR.og)
    have C0 := Bx.mk hR.c0
    have C1 := Bx.mk hR.c1
    have HBB : Bx (Byt (B ++ [b])) := ⟨hby.append (Byt.cons hb Byt.nil)⟩
    have HV : Bx (w.ownsRow 0 5 1 (.slice av NB cv) NB (bv B)) := ⟨hvr⟩
    obtain ⟨E, hE⟩ : ∃ E, E = (whV (m : Int) (B ++ [b])).2.2 := ⟨_, rfl⟩
    have HWH : Bx (∀ (a7 : Option Addr) (c7 : Nat) (W : World), Bts W a7 (NB + 1) c7 (B ++ [b]) → Calls Try.prog 9 #[.slice a7 (NB + 1) c7, .int .i64 (m : Int)] W fun e w' => ∃ v z, e = .returned (.tuple #[v, .int .i64 z, .int .i64 E]) ∧ Below W.heap.size W w') := ⟨fun a7 c7 W hW =>
      (rwhole_any a7 (NB + 1) c7 (B ++ [b]) (m : Int) W hW (by omega)).mono fun e w' ⟨v, h1, _, h3⟩ => ⟨v, _, by rw [hE]; exact h1, h3⟩⟩
    obtain ⟨i0, hi, hz0, hz1, hz2⟩ := info_parts Try.info5
    clear hR hI hvr hby hbt hNB
    have HWAY : Bx ((E = (stp m s b).2 ∧ (E = 4 ∨ E = 5) ∧ ptD m s b = false ∧ XI m B true (ptS m s b)) ∨ ((stp m s b).2 = 0 ∧ ∃ ed, (E == 0) = ed ∧ XI m (B ++ [b]) ed (ptS m s b) ∧ ptD m s b = ed ∧ (E == 4) = false ∧ (E == 5) = false)) := ⟨by
      by_cases he : (stp m s b).2 ≠ 0
      · obtain ⟨hi2, hw⟩ := HI.out.err hm he
        refine .inl ⟨by rw [hE, hw], ?_, by unfold ptD; simp [he], hi2⟩
        rw [hE, hw]
        rcases stp_errs (most := m) (b := b) hp with h | h | h
        · exact absurd h he
        · exact .inl h
        · exact .inr h
      · have he0 : (stp m s b).2 = 0 := by simpa using he
        refine .inr ⟨he0, ?_⟩
        by_cases hd : (stp m s b).1.ph = 10
        · obtain ⟨h1, h2⟩ := HI.out.whole hm he0 hd
          exact ⟨true, by rw [hE, h2]; rfl, h1, by unfold ptD; simp [he0, hd, hp], by rw [hE, h2]; rfl, by rw [hE, h2]; rfl⟩
        · obtain ⟨h1, h2⟩ := HI.out.more hm he0 hd
          exact ⟨false, by rw [hE, h2]; rfl, h1, by unfold ptD; simp [hd], by rw [hE, h2]; rfl, by rw [hE, h2]; rfl⟩⟩
    clear hE HI
    go_enter Try.func14, Try.ntmps14
    go_wp2_with fail
    have hk : Below w.heap.size w w.drew := (Below.refl _ _).drew
    go_cut [6, 7, 8] from 13 to 29 (fun s6 s7 s8 wx => ∃ v6 z6, s6 = v6 ∧ s7 = .int .i64 z6 ∧ s8 = .int .i64 E ∧ Below w.heap.size w wx)
    case first =>
      refine wp_region_held_drew (S := fun W => Below w.heap.size w W) (by kernel_rfl) hk (fun _ => ?_)
      generalize w.drew = wk at hk ⊢
      refine wpAnyH_take (i := 0) (oi := { dst := some 14, op := Op.move (Operand.tmp 0), type := 36, pos := "ref.go:101", after := #[], guard := none }) (v := ?vxput31) rfl (by kernel_rfl) (by kernel_rfl) (by kernel_rfl) (fun _ _ _ h => h) (Or.inl ⟨by rfl, ?yxput31⟩) hk ?rxput31
      case yxput31 => (intro w hSw; (try dsimp only at hSw); go_simp; first | done | with_reducible rfl)
      simp only [Act.put, List.setIfInBounds_toArray, List.set_cons_zero, List.set_cons_succ]
      refine wpAnyH_take (i := 1) (oi := { dst := some 15, op := Op.nilCheck (Operand.tmp 14), type := 0, pos := "ref.go:101", after := #[{ on := 0, ground := Ground.data }], guard := none }) (v := ?vxput32) rfl (by kernel_rfl) (by kernel_rfl) (by kernel_rfl) (fun _ _ _ h => h) (Or.inl ⟨by rfl, ?yxput32⟩) hk ?rxput32
      case yxput32 => (intro w hSw; (try dsimp only at hSw); go_simp; first | done | with_reducible rfl)
      simp only [Act.put, List.setIfInBounds_toArray, List.set_cons_zero, List.set_cons_succ]
      refine wpAnyH_take (i := 2) (oi := { dst := some 16, op := Op.fieldAddr 38 (Operand.tmp 15) 1, type := 0, pos := "ref.go:101", after := #[{ on := 1, ground := Ground.data }], guard := none }) (v := ?vxput33) rfl (by kernel_rfl) (by kernel_rfl) (by kernel_rfl) (fun _ _ _ h => h) (Or.inl ⟨by rfl, ?yxput33⟩) hk ?rxput33
      case yxput33 => (intro w hSw; (try dsimp only at hSw); go_simp; first | done | with_reducible rfl)
      simp only [Act.put, List.setIfInBounds_toArray, List.set_cons_zero, List.set_cons_succ]
      refine wpAnyH_take (i := 3) (oi := { dst := some 17, op := Op.load 22 (Operand.tmp 16), type := 22, pos := "ref.go:101", after := #[{ on := 2, ground := Ground.data }], guard := none }) (v := ?vxput34) rfl (by kernel_rfl) (by kernel_rfl) (by kernel_rfl) (fun _ _ _ h => h) (Or.inl ⟨by rfl, ?yxput34⟩) hk ?rxput34
      case yxput34 => (intro w hSw; have hcw := (hSw.cell (p := ⟨g, 1, none⟩) HGL.out).trans C1.out; clear hSw; go_simp; first | done | with_reducible rfl)
      simp only [Act.put, List.setIfInBounds_toArray, List.set_cons_zero, List.set_cons_succ]
      refine wpAnyH_take (i := 5) (oi := { dst := some 19, op := Op.move (Operand.tmp 1), type := 5, pos := "ref.go:101", after := #[], guard := none }) (v := ?vxput35) rfl (by kernel_rfl) (by kernel_rfl) (by kernel_rfl) (fun _ _ _ h => h) (Or.inl ⟨by rfl, ?yxput35⟩) hk ?rxput35
      case yxput35 => (intro w hSw; (try dsimp only at hSw); go_simp; first | done | with_reducible rfl)
      simp only [Act.put, List.setIfInBounds_toArray, List.set_cons_zero, List.set_cons_succ]
      refine wpAnyH_take (i := 8) (oi := { dst := some 22, op := Op.move (Operand.tmp 0), type := 36, pos := "ref.go:101", after := #[], guard := none }) (v := ?vxput36) rfl (by kernel_rfl) (by kernel_rfl) (by kernel_rfl) (fun _ _ _ h => h) (Or.inl ⟨by rfl, ?yxput36⟩) hk ?rxput36
      case yxput36 => (intro w hSw; (try dsimp only at hSw); go_simp; first | done | with_reducible rfl)
      simp only [Act.put, List.setIfInBounds_toArray, List.set_cons_zero, List.set_cons_succ]
      refine wpAnyH_take (i := 9) (oi := { dst := some 23, op := Op.nilCheck (Operand.tmp 22), type := 0, pos := "ref.go:101", after := #[{ on := 8, ground := Ground.data }], guard := none }) (v := ?vxput37) rfl (by kernel_rfl) (by kernel_rfl) (by kernel_rfl) (fun _ _ _ h => h) (Or.inl ⟨by rfl, ?yxput37⟩) hk ?rxput37
      case yxput37 => (intro w hSw; (try dsimp only at hSw); go_simp; first | done | with_reducible rfl)
      simp only [Act.put, List.setIfInBounds_toArray, List.set_cons_zero, List.set_cons_succ]
      refine wpAnyH_take (i := 10) (oi := { dst := some 24, op := Op.fieldAddr 38 (Operand.tmp 23) 0, type := 0, pos := "ref.go:101", after := #[{ on := 9, ground := Ground.data }], guard := none }) (v := ?vxput38) rfl (by kernel_rfl) (by kernel_rfl) (by kernel_rfl) (fun _ _ _ h => h) (Or.inl ⟨by rfl, ?yxput38⟩) hk ?rxput38
      case yxput38 => (intro w hSw; (try dsimp only at hSw); go_simp; first | done | with_reducible rfl)
      simp only [Act.put, List.setIfInBounds_toArray, List.set_cons_zero, List.set_cons_succ]
      refine wpAnyH_take (i := 11) (oi := { dst := some 25, op := Op.load 3 (Operand.tmp 24), type := 3, pos := "ref.go:101", after := #[{ on := 10, ground := Ground.data }], guard := none }) (v := ?vxput39) rfl (by kernel_rfl) (by kernel_rfl) (by kernel_rfl) (fun _ _ _ h => h) (Or.inl ⟨by rfl, ?yxput39⟩) hk ?rxput39
      case yxput39 => (intro w hSw; have hcw := (hSw.cell (p := ⟨g, 0, none⟩) HGL.out).trans C0.out; clear hSw; go_simp; first | done | with_reducible rfl)
      simp only [Act.put, List.setIfInBounds_toArray, List.set_cons_zero, List.set_cons_succ]
      refine wpAnyH_ready (rs := [4, 6]) (by decide +kernel) (by simp) ?_
      refine (AllReadyH.cons (o := { dst := some 18, op := Op.call { callee := Callee.value (Operand.func 7), args := #[Operand.tmp 17], argTypes := #[22] }, type := 22, pos := "ref.go:101", after := #[{ on := 3, ground := Ground.data }], guard := none }) rfl (fun K hK => ?_) (AllReadyH.cons (o := { dst := some 20, op := Op.buildSlice 22 1 #[(0, Operand.tmp 19)], type := 22, pos := "ref.go:101", after := #[{ on := 5, ground := Ground.data }], guard := none }) rfl (fun K hK => ?_) AllReadyH.nil))
      · go_simp
        refine (copy_any av NB cv B _ (HB.out.below hk) (by omega)).mono ?_
        rintro e3 w3 ⟨v3, rfl, hown3, hb3⟩
        have HO : Bx (w3.ownsRow w.heap.size 5 1 v3 NB (bv B)) := ⟨owns_base hown3 hk.size⟩
        try replace HN := Bx.mk (HN.out.below hb3)
        replace hk := bstep hk hb3
        clear hown3 hb3
        obtain ⟨wk, hwk⟩ : ∃ x, x = w3 := ⟨_, rfl⟩
        subst hwk
        refine hK.out _ _ hk (fun _ => ?_)
        clear hK K
        try simp only [Act.put, List.setIfInBounds_toArray, List.set_cons_zero, List.set_cons_succ]
        refine wpAnyH_ready (rs := [6]) (by decide +kernel) (by simp) ?_
        refine AllReadyH.cons (o := { dst := some 20, op := Op.buildSlice 22 1 #[(0, Operand.tmp 19)], type := 22, pos := "ref.go:101", after := #[{ on := 5, ground := Ground.data }], guard := none }) rfl (fun K hK => ?_) AllReadyH.nil
        go_simp
        have hbA : Below wk.heap.size wk (wk.alloc (.cells #[.int .u8 b] 5)) := (Below.refl _ _).alloc (Nat.le_refl _) _
        have HN : Bx (Bts (wk.alloc (.cells #[.int .u8 b] 5)) (some ⟨wk.heap.size, 0, none⟩) 1 1 [b]) := ⟨bts_const wk [b] (Byt.cons hb Byt.nil) (0, 0) (by show 1 ≤ maxLen; decide)⟩
        try replace HO := Bx.mk (owns_below HO.out hbA)
        replace hk := bstep hk hbA
        clear hbA
        generalize wk.heap.size = G at HN ⊢
        first | generalize wk.alloc (.cells #[.int .u8 b] 5) = wk at HN HO hk ⊢ | generalize wk.alloc (.cells #[.int .u8 b] 5) = wk at HN hk ⊢
        refine hK.out _ _ hk (fun _ => ?_)
        clear hK K
        try simp only [Act.put, List.setIfInBounds_toArray, List.set_cons_zero, List.set_cons_succ]
        refine wpAnyH_ready (rs := [7]) (by decide +kernel) (by simp) ?_
        refine AllReadyH.cons (o := { dst := some 21, op := Op.call { callee := Callee.builtin Builtin.append, args := #[Operand.tmp 18, Operand.tmp 20], argTypes := #[22, 22] }, type := 22, pos := "ref.go:101", after := #[{ on := 4, ground := Ground.data }, { on := 6, ground := Ground.data }, { on := 4, ground := Ground.chain }], guard := none }) rfl (fun K hK => ?_) AllReadyH.nil
        refine step_append_bts rfl (.tmp 18) (.tmp 20) rfl w.heap.size NB v3 B rfl HO.out (some ⟨G, 0, none⟩) 1 1 [b] rfl HN.out (by omega) hk.size ?_
        intro v7 w7 hown7 hb7 _
        obtain ⟨a7, c7, hv7, hm7⟩ := Bts.of_owns hown7 HBB.out
        subst hv7
        have HM7 := Bx.mk hm7
        replace hk := hk.trans hb7
        clear hown7 hb7 HO HN hm7
        obtain ⟨wk, hwk⟩ : ∃ x, x = w7 := ⟨_, rfl⟩
        subst hwk
        refine hK.out _ _ hk (fun _ => ?_)
        clear hK K
        try simp only [Act.put, List.setIfInBounds_toArray, List.set_cons_zero, List.set_cons_succ]
        refine wpAnyH_ready (rs := [12]) (by decide +kernel) (by simp) ?_
        refine AllReadyH.cons (o := { dst := some 26, op := Op.call { callee := Callee.value (Operand.func 9), args := #[Operand.tmp 21, Operand.tmp 25], argTypes := #[22, 3] }, type := 28, pos := "ref.go:101", after := #[{ on := 7, ground := Ground.data }, { on := 11, ground := Ground.data }, { on := 7, ground := Ground.chain }], guard := none }) rfl (fun K hK => ?_) AllReadyH.nil
        go_simp
        refine (HWH.out a7 c7 _ HM7.out).mono ?_
        rintro e9 w9 ⟨v9, z9, rfl, hb9⟩
        replace hk := bstep hk hb9
        clear hb9 HM7
        obtain ⟨wk, hwk⟩ : ∃ x, x = w9 := ⟨_, rfl⟩
        subst hwk
        refine hK.out _ _ hk (fun _ => ?_)
        clear hK K
        try simp only [Act.put, List.setIfInBounds_toArray, List.set_cons_zero, List.set_cons_succ]
        refine wpAnyH_take (i := 13) (oi := { dst := some 13, op := Op.move (Operand.tmp 26), type := 28, pos := "ref.go:101", after := #[{ on := 12, ground := Ground.data }], guard := none }) (v := ?vxput310) rfl (by kernel_rfl) (by kernel_rfl) (by kernel_rfl) (fun _ _ _ h => h) (Or.inl ⟨by rfl, ?yxput310⟩) hk ?rxput310
        case yxput310 => (intro w hSw; (try dsimp only at hSw); go_simp; first | done | with_reducible rfl)
        simp only [Act.put, List.setIfInBounds_toArray, List.set_cons_zero, List.set_cons_succ]
        refine wpAnyH_take (i := 14) (oi := { dst := some 27, op := Op.extract (Operand.tmp 13) 0, type := 22, pos := "ref.go:101", after := #[{ on := 13, ground := Ground.data }], guard := none }) (v := ?vxput311) rfl (by kernel_rfl) (by kernel_rfl) (by kernel_rfl) (fun _ _ _ h => h) (Or.inl ⟨by rfl, ?yxput311⟩) hk ?rxput311
        case yxput311 => (intro w hSw; (try dsimp only at hSw); go_simp; first | done | with_reducible rfl)
        simp only [Act.put, List.setIfInBounds_toArray, List.set_cons_zero, List.set_cons_succ]
        refine wpAnyH_take (i := 15) (oi := { dst := some 28, op := Op.extract (Operand.tmp 13) 1, type := 3, pos := "ref.go:101", after := #[{ on := 13, ground := Ground.data }, { on := 17, ground := Ground.gcOnly Departure.lateStores }], guard := none }) (v := ?vxput312) rfl (by kernel_rfl) (by kernel_rfl) (by kernel_rfl) (fun _ _ _ h => h) (Or.inl ⟨by rfl, ?yxput312⟩) hk ?rxput312
        case yxput312 => (intro w hSw; (try dsimp only at hSw); go_simp; first | done | with_reducible rfl)
        simp only [Act.put, List.setIfInBounds_toArray, List.set_cons_zero, List.set_cons_succ]
        refine wpAnyH_take (i := 16) (oi := { dst := some 29, op := Op.extract (Operand.tmp 13) 2, type := 3, pos := "ref.go:101", after := #[{ on := 13, ground := Ground.data }, { on := 18, ground := Ground.gcOnly Departure.lateStores }], guard := none }) (v := ?vxput313) rfl (by kernel_rfl) (by kernel_rfl) (by kernel_rfl) (fun _ _ _ h => h) (Or.inl ⟨by rfl, ?yxput313⟩) hk ?rxput313
        case yxput313 => (intro w hSw; (try dsimp only at hSw); go_simp; first | done | with_reducible rfl)
        simp only [Act.put, List.setIfInBounds_toArray, List.set_cons_zero, List.set_cons_succ]
        refine wpAnyH_take (i := 17) (oi := { dst := some 6, op := Op.assign (Operand.tmp 27), type := 22, pos := "ref.go:101", after := #[{ on := 14, ground := Ground.data }, { on := 12, ground := Ground.chain }, { on := 0, ground := Ground.phase }, { on := 1, ground := Ground.phase }, { on := 2, ground := Ground.phase }, { on := 3, ground := Ground.phase }, { on := 4, ground := Ground.phase }, { on := 5, ground := Ground.phase }, { on := 6, ground := Ground.phase }, { on := 7, ground := Ground.phase }, { on := 8, ground := Ground.phase }, { on := 9, ground := Ground.phase }, { on := 10, ground := Ground.phase }, { on := 11, ground := Ground.phase }, { on := 12, ground := Ground.phase }, { on := 13, ground := Ground.phase }, { on := 14, ground := Ground.phase }, { on := 15, ground := Ground.textOnly Departure.lateStores }, { on := 16, ground := Ground.textOnly Departure.lateStores }], guard := none }) (v := ?vxput314) rfl (by kernel_rfl) (by kernel_rfl) (by kernel_rfl) (fun _ _ _ h => h) (Or.inl ⟨by rfl, ?yxput314⟩) hk ?rxput314
        case yxput314 => (intro w hSw; (try dsimp only at hSw); go_simp; first | done | with_reducible rfl)
        simp only [Act.put, List.setIfInBounds_toArray, List.set_cons_zero, List.set_cons_succ]
        refine wpAnyH_take (i := 18) (oi := { dst := some 7, op := Op.assign (Operand.tmp 28), type := 3, pos := "ref.go:101", after := #[{ on := 15, ground := Ground.data }, { on := 17, ground := Ground.chain }, { on := 0, ground := Ground.phase }, { on := 1, ground := Ground.phase }, { on := 2, ground := Ground.phase }, { on := 3, ground := Ground.phase }, { on := 4, ground := Ground.phase }, { on := 5, ground := Ground.phase }, { on := 6, ground := Ground.phase }, { on := 7, ground := Ground.phase }, { on := 8, ground := Ground.phase }, { on := 9, ground := Ground.phase }, { on := 10, ground := Ground.phase }, { on := 11, ground := Ground.phase }, { on := 12, ground := Ground.phase }, { on := 13, ground := Ground.phase }, { on := 14, ground := Ground.phase }, { on := 15, ground := Ground.phase }, { on := 16, ground := Ground.textOnly Departure.lateStores }, { on := 17, ground := Ground.phase }], guard := none }) (v := ?vxput315) rfl (by kernel_rfl) (by kernel_rfl) (by kernel_rfl) (fun _ _ _ h => h) (Or.inl ⟨by rfl, ?yxput315⟩) hk ?rxput315
        case yxput315 => (intro w hSw; (try dsimp only at hSw); go_simp; first | done | with_reducible rfl)
        simp only [Act.put, List.setIfInBounds_toArray, List.set_cons_zero, List.set_cons_succ]
        refine wpAnyH_take (i := 19) (oi := { dst := some 8, op := Op.assign (Operand.tmp 29), type := 3, pos := "ref.go:101", after := #[{ on := 16, ground := Ground.data }, { on := 18, ground := Ground.chain }, { on := 0, ground := Ground.phase }, { on := 1, ground := Ground.phase }, { on := 2, ground := Ground.phase }, { on := 3, ground := Ground.phase }, { on := 4, ground := Ground.phase }, { on := 5, ground := Ground.phase }, { on := 6, ground := Ground.phase }, { on := 7, ground := Ground.phase }, { on := 8, ground := Ground.phase }, { on := 9, ground := Ground.phase }, { on := 10, ground := Ground.phase }, { on := 11, ground := Ground.phase }, { on := 12, ground := Ground.phase }, { on := 13, ground := Ground.phase }, { on := 14, ground := Ground.phase }, { on := 15, ground := Ground.phase }, { on := 16, ground := Ground.phase }, { on := 17, ground := Ground.phase }, { on := 18, ground := Ground.phase }], guard := none }) (v := ?vxput316) rfl (by kernel_rfl) (by kernel_rfl) (by kernel_rfl) (fun _ _ _ h => h) (Or.inl ⟨by rfl, ?yxput316⟩) hk ?rxput316
        case yxput316 => (intro w hSw; (try dsimp only at hSw); go_simp; first | done | with_reducible rfl)
        simp only [Act.put, List.setIfInBounds_toArray, List.set_cons_zero, List.set_cons_succ]
        refine wpAnyH_done (by decide +kernel) ?_ _
        go_wp2_with fail
        go_meet
        case rel => exact ⟨_, _, rfl, rfl, rfl, hk⟩
      · go_simp
        have hbA : Below wk.heap.size wk (wk.alloc (.cells #[.int .u8 b] 5)) := (Below.refl _ _).alloc (Nat.le_refl _) _
        have HN : Bx (Bts (wk.alloc (.cells #[.int .u8 b] 5)) (some ⟨wk.heap.size, 0, none⟩) 1 1 [b]) := ⟨bts_const wk [b] (Byt.cons hb Byt.nil) (0, 0) (by show 1 ≤ maxLen; decide)⟩
        try replace HO := Bx.mk (owns_below HO.out hbA)
        replace hk := bstep hk hbA
        clear hbA
        generalize wk.heap.size = G at HN ⊢
        first | generalize wk.alloc (.cells #[.int .u8 b] 5) = wk at HN HO hk ⊢ | generalize wk.alloc (.cells #[.int .u8 b] 5) = wk at HN hk ⊢
        refine hK.out _ _ hk (fun _ => ?_)
        clear hK K
        try simp only [Act.put, List.setIfInBounds_toArray, List.set_cons_zero, List.set_cons_succ]
        refine wpAnyH_ready (rs := [4]) (by decide +kernel) (by simp) ?_
        refine AllReadyH.cons (o := { dst := some 18, op := Op.call { callee := Callee.value (Operand.func 7), args := #[Operand.tmp 17], argTypes := #[22] }, type := 22, pos := "ref.go:101", after := #[{ on := 3, ground := Ground.data }], guard := none }) rfl (fun K hK => ?_) AllReadyH.nil
        go_simp
        refine (copy_any av NB cv B _ (HB.out.below hk) (by omega)).mono ?_
        rintro e3 w3 ⟨v3, rfl, hown3, hb3⟩
        have HO : Bx (w3.ownsRow w.heap.size 5 1 v3 NB (bv B)) := ⟨owns_base hown3 hk.size⟩
        try replace HN := Bx.mk (HN.out.below hb3)
        replace hk := bstep hk hb3
        clear hown3 hb3
        obtain ⟨wk, hwk⟩ : ∃ x, x = w3 := ⟨_, rfl⟩
        subst hwk
        refine hK.out _ _ hk (fun _ => ?_)
        clear hK K
        try simp only [Act.put, List.setIfInBounds_toArray, List.set_cons_zero, List.set_cons_succ]
        refine wpAnyH_ready (rs := [7]) (by decide +kernel) (by simp) ?_
        refine AllReadyH.cons (o := { dst := some 21, op := Op.call { callee := Callee.builtin Builtin.append, args := #[Operand.tmp 18, Operand.tmp 20], argTypes := #[22, 22] }, type := 22, pos := "ref.go:101", after := #[{ on := 4, ground := Ground.data }, { on := 6, ground := Ground.data }, { on := 4, ground := Ground.chain }], guard := none }) rfl (fun K hK => ?_) AllReadyH.nil
        refine step_append_bts rfl (.tmp 18) (.tmp 20) rfl w.heap.size NB v3 B rfl HO.out (some ⟨G, 0, none⟩) 1 1 [b] rfl HN.out (by omega) hk.size ?_
        intro v7 w7 hown7 hb7 _
        obtain ⟨a7, c7, hv7, hm7⟩ := Bts.of_owns hown7 HBB.out
        subst hv7
        have HM7 := Bx.mk hm7
        replace hk := hk.trans hb7
        clear hown7 hb7 HO HN hm7
        obtain ⟨wk, hwk⟩ : ∃ x, x = w7 := ⟨_, rfl⟩
        subst hwk
        refine hK.out _ _ hk (fun _ => ?_)
        clear hK K
        try simp only [Act.put, List.setIfInBounds_toArray, List.set_cons_zero, List.set_cons_succ]
        refine wpAnyH_ready (rs := [12]) (by decide +kernel) (by simp) ?_
        refine AllReadyH.cons (o := { dst := some 26, op := Op.call { callee := Callee.value (Operand.func 9), args := #[Operand.tmp 21, Operand.tmp 25], argTypes := #[22, 3] }, type := 28, pos := "ref.go:101", after := #[{ on := 7, ground := Ground.data }, { on := 11, ground := Ground.data }, { on := 7, ground := Ground.chain }], guard := none }) rfl (fun K hK => ?_) AllReadyH.nil
        go_simp
        refine (HWH.out a7 c7 _ HM7.out).mono ?_
        rintro e9 w9 ⟨v9, z9, rfl, hb9⟩
        replace hk := bstep hk hb9
        clear hb9 HM7
        obtain ⟨wk, hwk⟩ : ∃ x, x = w9 := ⟨_, rfl⟩
        subst hwk
        refine hK.out _ _ hk (fun _ => ?_)
        clear hK K
        try simp only [Act.put, List.setIfInBounds_toArray, List.set_cons_zero, List.set_cons_succ]
        refine wpAnyH_take (i := 13) (oi := { dst := some 13, op := Op.move (Operand.tmp 26), type := 28, pos := "ref.go:101", after := #[{ on := 12, ground := Ground.data }], guard := none }) (v := ?vxput317) rfl (by kernel_rfl) (by kernel_rfl) (by kernel_rfl) (fun _ _ _ h => h) (Or.inl ⟨by rfl, ?yxput317⟩) hk ?rxput317
        case yxput317 => (intro w hSw; (try dsimp only at hSw); go_simp; first | done | with_reducible rfl)
        simp only [Act.put, List.setIfInBounds_toArray, List.set_cons_zero, List.set_cons_succ]
        refine wpAnyH_take (i := 14) (oi := { dst := some 27, op := Op.extract (Operand.tmp 13) 0, type := 22, pos := "ref.go:101", after := #[{ on := 13, ground := Ground.data }], guard := none }) (v := ?vxput318) rfl (by kernel_rfl) (by kernel_rfl) (by kernel_rfl) (fun _ _ _ h => h) (Or.inl ⟨by rfl, ?yxput318⟩) hk ?rxput318
        case yxput318 => (intro w hSw; (try dsimp only at hSw); go_simp; first | done | with_reducible rfl)
        simp only [Act.put, List.setIfInBounds_toArray, List.set_cons_zero, List.set_cons_succ]
        refine wpAnyH_take (i := 15) (oi := { dst := some 28, op := Op.extract (Operand.tmp 13) 1, type := 3, pos := "ref.go:101", after := #[{ on := 13, ground := Ground.data }, { on := 17, ground := Ground.gcOnly Departure.lateStores }], guard := none }) (v := ?vxput319) rfl (by kernel_rfl) (by kernel_rfl) (by kernel_rfl) (fun _ _ _ h => h) (Or.inl ⟨by rfl, ?yxput319⟩) hk ?rxput319
        case yxput319 => (intro w hSw; (try dsimp only at hSw); go_simp; first | done | with_reducible rfl)
        simp only [Act.put, List.setIfInBounds_toArray, List.set_cons_zero, List.set_cons_succ]
        refine wpAnyH_take (i := 16) (oi := { dst := some 29, op := Op.extract (Operand.tmp 13) 2, type := 3, pos := "ref.go:101", after := #[{ on := 13, ground := Ground.data }, { on := 18, ground := Ground.gcOnly Departure.lateStores }], guard := none }) (v := ?vxput320) rfl (by kernel_rfl) (by kernel_rfl) (by kernel_rfl) (fun _ _ _ h => h) (Or.inl ⟨by rfl, ?yxput320⟩) hk ?rxput320
        case yxput320 => (intro w hSw; (try dsimp only at hSw); go_simp; first | done | with_reducible rfl)
        simp only [Act.put, List.setIfInBounds_toArray, List.set_cons_zero, List.set_cons_succ]
        refine wpAnyH_take (i := 17) (oi := { dst := some 6, op := Op.assign (Operand.tmp 27), type := 22, pos := "ref.go:101", after := #[{ on := 14, ground := Ground.data }, { on := 12, ground := Ground.chain }, { on := 0, ground := Ground.phase }, { on := 1, ground := Ground.phase }, { on := 2, ground := Ground.phase }, { on := 3, ground := Ground.phase }, { on := 4, ground := Ground.phase }, { on := 5, ground := Ground.phase }, { on := 6, ground := Ground.phase }, { on := 7, ground := Ground.phase }, { on := 8, ground := Ground.phase }, { on := 9, ground := Ground.phase }, { on := 10, ground := Ground.phase }, { on := 11, ground := Ground.phase }, { on := 12, ground := Ground.phase }, { on := 13, ground := Ground.phase }, { on := 14, ground := Ground.phase }, { on := 15, ground := Ground.textOnly Departure.lateStores }, { on := 16, ground := Ground.textOnly Departure.lateStores }], guard := none }) (v := ?vxput321) rfl (by kernel_rfl) (by kernel_rfl) (by kernel_rfl) (fun _ _ _ h => h) (Or.inl ⟨by rfl, ?yxput321⟩) hk ?rxput321
        case yxput321 => (intro w hSw; (try dsimp only at hSw); go_simp; first | done | with_reducible rfl)
        simp only [Act.put, List.setIfInBounds_toArray, List.set_cons_zero, List.set_cons_succ]
        refine wpAnyH_take (i := 18) (oi := { dst := some 7, op := Op.assign (Operand.tmp 28), type := 3, pos := "ref.go:101", after := #[{ on := 15, ground := Ground.data }, { on := 17, ground := Ground.chain }, { on := 0, ground := Ground.phase }, { on := 1, ground := Ground.phase }, { on := 2, ground := Ground.phase }, { on := 3, ground := Ground.phase }, { on := 4, ground := Ground.phase }, { on := 5, ground := Ground.phase }, { on := 6, ground := Ground.phase }, { on := 7, ground := Ground.phase }, { on := 8, ground := Ground.phase }, { on := 9, ground := Ground.phase }, { on := 10, ground := Ground.phase }, { on := 11, ground := Ground.phase }, { on := 12, ground := Ground.phase }, { on := 13, ground := Ground.phase }, { on := 14, ground := Ground.phase }, { on := 15, ground := Ground.phase }, { on := 16, ground := Ground.textOnly Departure.lateStores }, { on := 17, ground := Ground.phase }], guard := none }) (v := ?vxput322) rfl (by kernel_rfl) (by kernel_rfl) (by kernel_rfl) (fun _ _ _ h => h) (Or.inl ⟨by rfl, ?yxput322⟩) hk ?rxput322
        case yxput322 => (intro w hSw; (try dsimp only at hSw); go_simp; first | done | with_reducible rfl)
        simp only [Act.put, List.setIfInBounds_toArray, List.set_cons_zero, List.set_cons_succ]
        refine wpAnyH_take (i := 19) (oi := { dst := some 8, op := Op.assign (Operand.tmp 29), type := 3, pos := "ref.go:101", after := #[{ on := 16, ground := Ground.data }, { on := 18, ground := Ground.chain }, { on := 0, ground := Ground.phase }, { on := 1, ground := Ground.phase }, { on := 2, ground := Ground.phase }, { on := 3, ground := Ground.phase }, { on := 4, ground := Ground.phase }, { on := 5, ground := Ground.phase }, { on := 6, ground := Ground.phase }, { on := 7, ground := Ground.phase }, { on := 8, ground := Ground.phase }, { on := 9, ground := Ground.phase }, { on := 10, ground := Ground.phase }, { on := 11, ground := Ground.phase }, { on := 12, ground := Ground.phase }, { on := 13, ground := Ground.phase }, { on := 14, ground := Ground.phase }, { on := 15, ground := Ground.phase }, { on := 16, ground := Ground.phase }, { on := 17, ground := Ground.phase }, { on := 18, ground := Ground.phase }], guard := none }) (v := ?vxput323) rfl (by kernel_rfl) (by kernel_rfl) (by kernel_rfl) (fun _ _ _ h => h) (Or.inl ⟨by rfl, ?yxput323⟩) hk ?rxput323
        case yxput323 => (intro w hSw; (try dsimp only at hSw); go_simp; first | done | with_reducible rfl)
        simp only [Act.put, List.setIfInBounds_toArray, List.set_cons_zero, List.set_cons_succ]
        refine wpAnyH_done (by decide +kernel) ?_ _
        go_wp2_with fail
        go_meet
        case rel => exact ⟨_, _, rfl, rfl, rfl, hk⟩
    case rest =>
      obtain ⟨v6, z6, rfl, rfl, rfl, hbl⟩ := hcut
      clear hk
      have HR1 : Bx (XR wc g own m B false (.slice av NB cv)) := ⟨HR.out.below hbl⟩
      have HBL := Bx.mk hbl
      have HKB : Bx (Kept own w wc) := ⟨Kept.of_below hbl⟩
      clear hbl c2
      rcases HWAY.out with ⟨hES, h45, hD, hi2⟩ | ⟨hES, ed, hed, hi2, hD, g1, g2⟩
      · have d2 := HR1.out.c2
        have f2 := HR1.out.fr 2
        have HES := Bx.mk hES
        have HD := Bx.mk hD
        have HFIN : Bx (∃ own', Xd (wc.setCell ⟨g, 2, none⟩ (.bool true)) g own' m (ptS m s b) (N + 1) ∧ Did own w (wc.setCell ⟨g, 2, none⟩ (.bool true)) own') := ⟨⟨own, ⟨hm, B, true, _, HR1.out.setEnd true, hi2, by have := HNB.out; omega⟩, Did.same (HKB.out.trans' (HR1.out.kset 2 _))⟩⟩
        clear hES hD hi2 HWAY hi hz0 hz1 hz2
        rcases h45 with h4 | h4
        · have g1 : (E == 4) = true := by simpa using h4
          clear h4
          go_wp2
          go_ret2
          exact ⟨by rw [HD.out, ← HES.out]; rfl, HFIN.out⟩
        · have g1 : (E == 4) = false := by rw [h4]; rfl
          have g2 : (E == 5) = true := by simpa using h4
          clear h4
          go_wp2
          go_ret2
          exact ⟨by rw [HD.out, ← HES.out]; rfl, HFIN.out⟩
      · have HVC : Bx (wc.ownsRow 0 5 1 (.slice av NB cv) NB (bv B)) := ⟨by have h9 := HR1.out.vr; rw [← HNB.out] at h9; exact h9⟩
        have d1 := HR1.out.c1
        have HES := Bx.mk hES
        have HD := Bx.mk hD
        have HI2 := Bx.mk hi2
        clear hES hD hi2 HWAY
        go_wp2_with (at_builtin; refine wpList_append_lies _ rfl (.tmp 44) (.tmp 46) 22 rfl 0 5 i0 (.int .u8 0) 1 1 Try.underlying22 hi hz0 hz1 hz2 rfl (by decide) _ NB (bv B) rfl (HVC.out.alloc _) ⟨wc.heap.size, 0, none⟩ 1 1 [.int .u8 b] rfl rfl (World.news_of_block (heap_alloc_new wc _)) (by simp [Value.oneCell']) (by decide) (by unfold maxLen; omega) (by omega) (Nat.zero_le _) _ rfl ?_; intro g4 cap4 w4 hown4 hgr4 hl4 hlt4; have hown5 : w4.ownsRow 0 5 1 (.slice (some ⟨g4, 0, none⟩) (B.length + 1) cap4) (B.length + 1) (bv B ++ [.int .u8 b]) := (by rw [← HNB.out]; exact hown4); obtain ⟨hr4, hR4, hK4⟩ := HR1.out.more hb rfl hown5 hgr4 hl4 (by simp) hlt4; rw [← HNB.out] at hR4 hK4; have k1 : w4.cell? ⟨g, 1, none⟩ = some (.slice av NB cv) := (by rw [cell_of_row w4 g 1 _ _ (0, 0) hr4]; rfl); have k2 : w4.cell? ⟨g, 2, none⟩ = some (.bool false) := (by rw [cell_of_row w4 g 2 _ _ (0, 0) hr4]; rfl); have f1 : w4.frozen? ⟨g, 1, none⟩ = false := frozen_of_row _ _ 1 _ _ hr4; have f2 : w4.frozen? ⟨g, 2, none⟩ = false := frozen_of_row _ _ 2 _ _ hr4; have HR4 := Bx.mk hR4; have HK4 := Bx.mk hK4; have HW4 : Bx (w.heap.size ≤ wc.heap.size) := ⟨HBL.out.size⟩; clear hown4 hown5 hgr4 hl4 hlt4 hi hz0 hz1 hz2 hR4 hK4 hr4 d1)
        go_ret2
        refine ⟨by rw [HD.out, HES.out]; rfl, fun k => own k ∨ (wc.heap.size ≤ k ∧ k < w4.heap.size), ⟨hm, B ++ [b], ed, .slice (some ⟨g4, 0, none⟩) (NB + 1) cap4, HR4.out.setEnd ed, HI2.out, ?_⟩, ?_, fun k hk => ?_⟩
        · have h9 := HNB.out
          rw [List.length_append, List.length_cons, List.length_nil]; omega
        · exact (HKB.out.trans' HK4.out).setCell (.inl HR.out.og) 2 _
        · rcases hk with hk | hk
          · exact .inl hk
          · exact .inr ⟨by have := HW4.out; omega, by simpa [World.setCell] using hk.2⟩
end Go.Proofs.Ytjlclgmbenhakaa
