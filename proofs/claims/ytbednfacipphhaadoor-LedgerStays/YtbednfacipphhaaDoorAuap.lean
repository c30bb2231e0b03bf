/- What Path answers: digests in memory of its own. What merkle's Path answers. -/
import Derived.Test.YtbednfacipphhaaDoorRoot
import Derived.Test.YtbednfacipphhaaDoorAuaj
namespace Go.Proofs.YtbednfacipphhaaDoor
open Go.RowKit
set_option linter.unusedVariables false

set_option maxRecDepth 100000 in
set_option maxHeartbeats 1000000 in
theorem pathin_any (n : Nat) : ∀ (a : Option Addr) (len cap : Nat) (L : List (List Int)) (i : Nat) (x : Int) (w : World), len ≤ n → Dgs w a len cap L → Tab w → len ≤ 1000000 → i < len →
    Calls Tryd.prog 82 #[.slice a len cap, .int .i64 i, .int .i64 x] w fun e w' => ∃ v, e = .returned v ∧ w'.ownsRow w.heap.size 30 32 v (pathL L i x).length (bv (pathL L i x).flatten) ∧ Below w.heap.size w w' := by
  induction n using Nat.strongRecOn with
  | ind n ih =>
  intro a len cap L i x w hn hL htab hbd hi
  have hlen := hL.len_eq
  by_cases h1 : len = 1
  · have e1 : ((len : Int) == 1) = true := by simp; omega
    have HE : Bx (pathL L i x = []) := ⟨pathL_one L i x (by omega)⟩
    clear ih hL hlen h1
    go_enter Tryd.func82, Tryd.ntmps82
    go_wp2
    go_ret
    exact ⟨_, rfl, by rw [HE.out]; exact World.ownsRow_nil _ _ _ _, Below.refl _ _⟩
  · have e1 : ((len : Int) == 1) = false := by simp; omega
    obtain ⟨b, off, rfl, hlt, hcc⟩ := hL.spot (by omega)
    have hk1 := splitN_pos (n := len) (by omega)
    have hk2 := splitN_lt (n := len) (by omega)
    have hcap := hL.le_cap
    have HSP : Bx (∀ W, Calls Tryd.prog 84 #[.int .i64 (len : Int)] W fun e w' => e = .returned (.int .i64 (splitN len : Int)) ∧ W = w') := ⟨fun W => split_any (len : Int) W (by omega)⟩
    have hc1 := dgs_cut b off len cap (splitN len) (by omega)
    have hc2 := dgs_rest b off len cap (splitN len) (by omega) (by omega)
    by_cases hik : i < splitN len
    · have HE : Bx (pathL L i x = pathL (L.take (splitN len)) i x ++ [rootL (L.drop (splitN len)) x]) := ⟨by rw [pathL_left L i x (by omega) (by rw [hlen]; exact hik), hlen]⟩
      have HI1 : Bx (∀ W, Below w.heap.size w W → Calls Tryd.prog 82 #[.slice (some ⟨b, off, none⟩) (splitN len) cap, .int .i64 i, .int .i64 x] W fun e w' => ∃ v, e = .returned v ∧ w'.ownsRow W.heap.size 30 32 v (pathL (L.take (splitN len)) i x).length (bv (pathL (L.take (splitN len)) i x).flatten) ∧ Below W.heap.size W w') :=
        ⟨fun W hW => ih (splitN len) (by omega) _ _ _ _ i x W (Nat.le_refl _) ((hL.below hW).take _ (by omega)) (htab.below hW) (by omega) hik⟩
      have HR1 : Bx (∀ W, Below w.heap.size w W → Calls Tryd.prog 80 #[.slice (some ⟨b, off + 32 * splitN len, none⟩) (len - splitN len) (cap - splitN len), .int .i64 x] W fun e w' => e = .returned (.agg (bv (rootL (L.drop (splitN len)) x)).toArray) ∧ Below W.heap.size W w') :=
        ⟨fun W hW => root_any (len - splitN len) _ _ _ _ x W (Nat.le_refl _) ((hL.below hW).drop _ (by omega)) (htab.below hW) (by omega)⟩
      have hR := rootL_dg (L.drop (splitN len)) x (hL.dig.drop _)
      have hpl := pathL_len (splitN len) (L.take (splitN len)) i x (by rw [List.length_take]; omega)
      have hki : (i : Int) < (splitN len : Int) := by omega
      generalize rootL (L.drop (splitN len)) x = R at HE HR1 hR
      generalize pathL (L.take (splitN len)) i x = PL at HE HI1 hpl
      generalize splitN len = k at hk1 hk2 HSP HI1 HR1 hc1 hc2 hpl hki
      clear hcc hL htab ih hlen hik
      go_enter Tryd.func82, Tryd.ntmps82
      go_wp2_with fail
      refine (HSP.out _).mono ?_
      rintro e w' ⟨rfl, rfl⟩
      generalize hm : off + 32 * k = o2 at hc2 HR1
      generalize hm2 : len - k = l2 at hc2 HR1
      generalize hm3 : cap - k = c2 at hc2 HR1
      clear hm hm2 hm3 HSP
      go_wp2_with fail
      have hk : Below w.heap.size w w.drew := below_drewN (Below.refl _ _) 1
      refine wp_region_held_drew (S := fun W => Below w.heap.size w W) (by kernel_rfl) hk (fun _ => ?_)
      refine wpAnyH_take (i := 0) (oi := { dst := some 17, op := Op.move (Operand.tmp 0), type := 60, pos := "merkle.go:74", after := #[], guard := none }) (v := ?vpathl1) rfl (by kernel_rfl) (by kernel_rfl) (by kernel_rfl) (fun _ _ _ h => h) (Or.inl ⟨by rfl, ?ypathl1⟩) hk ?rpathl1
      case ypathl1 => (intro w hSw; (try dsimp only at hSw); go_simp; first | done | with_reducible rfl)
      simp only [Act.put, List.setIfInBounds_toArray, List.set_cons_zero, List.set_cons_succ]
      refine wpAnyH_take (i := 1) (oi := { dst := some 18, op := Op.move (Operand.tmp 7), type := 3, pos := "merkle.go:74", after := #[], guard := none }) (v := ?vpathl2) rfl (by kernel_rfl) (by kernel_rfl) (by kernel_rfl) (fun _ _ _ h => h) (Or.inl ⟨by rfl, ?ypathl2⟩) hk ?rpathl2
      case ypathl2 => (intro w hSw; (try dsimp only at hSw); go_simp; first | done | with_reducible rfl)
      simp only [Act.put, List.setIfInBounds_toArray, List.set_cons_zero, List.set_cons_succ]
      refine wpAnyH_take (i := 2) (oi := { dst := some 19, op := Op.slice 60 (Operand.tmp 17) none (some (Operand.tmp 18)) none, type := 60, pos := "merkle.go:74", after := #[{ on := 0, ground := Ground.data }, { on := 1, ground := Ground.data }], guard := none }) (v := ?vpathl3) rfl (by kernel_rfl) (by kernel_rfl) (by kernel_rfl) (fun _ _ _ h => h) (Or.inl ⟨by rfl, ?ypathl3⟩) hk ?rpathl3
      case ypathl3 => (intro w hSw; (try dsimp only at hSw); go_simp; first | done | with_reducible rfl)
      simp only [Act.put, List.setIfInBounds_toArray, List.set_cons_zero, List.set_cons_succ]
      refine wpAnyH_take (i := 3) (oi := { dst := some 20, op := Op.move (Operand.tmp 1), type := 3, pos := "merkle.go:74", after := #[], guard := none }) (v := ?vpathl4) rfl (by kernel_rfl) (by kernel_rfl) (by kernel_rfl) (fun _ _ _ h => h) (Or.inl ⟨by rfl, ?ypathl4⟩) hk ?rpathl4
      case ypathl4 => (intro w hSw; (try dsimp only at hSw); go_simp; first | done | with_reducible rfl)
      simp only [Act.put, List.setIfInBounds_toArray, List.set_cons_zero, List.set_cons_succ]
      refine wpAnyH_take (i := 4) (oi := { dst := some 21, op := Op.move (Operand.tmp 2), type := 3, pos := "merkle.go:74", after := #[], guard := none }) (v := ?vpathl5) rfl (by kernel_rfl) (by kernel_rfl) (by kernel_rfl) (fun _ _ _ h => h) (Or.inl ⟨by rfl, ?ypathl5⟩) hk ?rpathl5
      case ypathl5 => (intro w hSw; (try dsimp only at hSw); go_simp; first | done | with_reducible rfl)
      simp only [Act.put, List.setIfInBounds_toArray, List.set_cons_zero, List.set_cons_succ]
      refine wpAnyH_take (i := 6) (oi := { dst := some 23, op := Op.move (Operand.tmp 0), type := 60, pos := "merkle.go:74", after := #[], guard := none }) (v := ?vpathl6) rfl (by kernel_rfl) (by kernel_rfl) (by kernel_rfl) (fun _ _ _ h => h) (Or.inl ⟨by rfl, ?ypathl6⟩) hk ?rpathl6
      case ypathl6 => (intro w hSw; (try dsimp only at hSw); go_simp; first | done | with_reducible rfl)
      simp only [Act.put, List.setIfInBounds_toArray, List.set_cons_zero, List.set_cons_succ]
      refine wpAnyH_take (i := 7) (oi := { dst := some 24, op := Op.move (Operand.tmp 7), type := 3, pos := "merkle.go:74", after := #[], guard := none }) (v := ?vpathl7) rfl (by kernel_rfl) (by kernel_rfl) (by kernel_rfl) (fun _ _ _ h => h) (Or.inl ⟨by rfl, ?ypathl7⟩) hk ?rpathl7
      case ypathl7 => (intro w hSw; (try dsimp only at hSw); go_simp; first | done | with_reducible rfl)
      simp only [Act.put, List.setIfInBounds_toArray, List.set_cons_zero, List.set_cons_succ]
      refine wpAnyH_take (i := 8) (oi := { dst := some 25, op := Op.slice 60 (Operand.tmp 23) (some (Operand.tmp 24)) none none, type := 60, pos := "merkle.go:74", after := #[{ on := 6, ground := Ground.data }, { on := 7, ground := Ground.data }], guard := none }) (v := ?vpathl8) rfl (by kernel_rfl) (by kernel_rfl) (by kernel_rfl) (fun _ _ _ h => h) (Or.inl ⟨by rfl, ?ypathl8⟩) hk ?rpathl8
      case ypathl8 => (intro w hSw; (try dsimp only at hSw); go_simp; first | done | with_reducible rfl)
      simp only [Act.put, List.setIfInBounds_toArray, List.set_cons_zero, List.set_cons_succ]
      refine wpAnyH_take (i := 9) (oi := { dst := some 26, op := Op.move (Operand.tmp 2), type := 3, pos := "merkle.go:74", after := #[], guard := none }) (v := ?vpathl9) rfl (by kernel_rfl) (by kernel_rfl) (by kernel_rfl) (fun _ _ _ h => h) (Or.inl ⟨by rfl, ?ypathl9⟩) hk ?rpathl9
      case ypathl9 => (intro w hSw; (try dsimp only at hSw); go_simp; first | done | with_reducible rfl)
      simp only [Act.put, List.setIfInBounds_toArray, List.set_cons_zero, List.set_cons_succ]
      refine wpAnyH_ready (rs := [5]) (by decide +kernel) (by simp) ?_
      refine AllReadyH.cons (o := { dst := some 22, op := Op.call { callee := Callee.value (Operand.func 82), args := #[Operand.tmp 19, Operand.tmp 20, Operand.tmp 21], argTypes := #[60, 3, 3] }, type := 60, pos := "merkle.go:74", after := #[{ on := 2, ground := Ground.data }, { on := 3, ground := Ground.data }, { on := 4, ground := Ground.data }], guard := none }) rfl (fun K hK => ?_) AllReadyH.nil
      go_simp
      refine (HI1.out _ hk).mono ?_
      rintro e1 w5 ⟨v5, rfl, hown0, hb1⟩
      have hown := owns_base hown0 hk.size
      replace hk := hk.trans (hb1.mono hk.size)
      clear hb1 hown0
      refine hK.out _ _ hk (fun _ => ?_)
      clear hK K
      try simp only [Act.put, List.setIfInBounds_toArray, List.set_cons_zero, List.set_cons_succ]
      refine wpAnyH_ready (rs := [10]) (by decide +kernel) (by simp) ?_
      refine AllReadyH.cons (o := { dst := some 27, op := Op.call { callee := Callee.value (Operand.func 80), args := #[Operand.tmp 25, Operand.tmp 26], argTypes := #[60, 3] }, type := 30, pos := "merkle.go:74", after := #[{ on := 8, ground := Ground.data }, { on := 9, ground := Ground.data }, { on := 5, ground := Ground.chain }], guard := none }) rfl (fun K hK => ?_) AllReadyH.nil
      go_simp
      refine (HR1.out _ hk).mono ?_
      rintro e1 w10 ⟨rfl, hb1⟩
      replace hown := owns_below hown hb1
      replace hk := hk.trans (hb1.mono hk.size)
      clear hb1
      refine hK.out _ _ hk (fun _ => ?_)
      clear hK K
      try simp only [Act.put, List.setIfInBounds_toArray, List.set_cons_zero, List.set_cons_succ]
      refine wpAnyH_ready (rs := [11]) (by decide +kernel) (by simp) ?_
      refine AllReadyH.cons (o := { dst := some 28, op := Op.buildSlice 60 1 #[(0, Operand.tmp 27)], type := 60, pos := "merkle.go:74", after := #[{ on := 10, ground := Ground.data }], guard := none }) rfl (fun K hK => ?_) AllReadyH.nil
      rw [if_pos (by rfl)]
      refine wp_build_one (.tmp 27) rfl R hR.1 rfl ?_
      have hone := one_new w10 R hR
      replace hown := owns_new hown rfl (.cells (bv R).toArray 30)
      replace hk := hk.alloc hk.size (.cells (bv R).toArray 30)
      simp only [Act.put, List.setIfInBounds_toArray, List.set_cons_zero, List.set_cons_succ]
      refine hK.out _ _ hk (fun _ => ?_)
      clear hK K
      try simp only [Act.put, List.setIfInBounds_toArray, List.set_cons_zero, List.set_cons_succ]
      refine wpAnyH_ready (rs := [12]) (by decide +kernel) (by simp) ?_
      refine AllReadyH.cons (o := { dst := some 29, op := Op.call { callee := Callee.builtin Builtin.append, args := #[Operand.tmp 22, Operand.tmp 28], argTypes := #[60, 60] }, type := 60, pos := "merkle.go:74", after := #[{ on := 5, ground := Ground.data }, { on := 11, ground := Ground.data }, { on := 10, ground := Ground.chain }], guard := none }) rfl (fun K hK => ?_) AllReadyH.nil
      refine step_append_dgs rfl (.tmp 22) (.tmp 28) rfl w.heap.size PL.length _ PL rfl hown _ 1 1 [R] rfl hone (by omega) hk.size ?_
      intro v12 w12 hown2 hb1 _
      replace hk := hk.trans hb1
      clear hb1 hown hone
      refine hK.out _ _ hk (fun _ => ?_)
      clear hK K
      try simp only [Act.put, List.setIfInBounds_toArray, List.set_cons_zero, List.set_cons_succ]
      refine wpAnyH_take (i := 13) (oi := { dst := some 6, op := Op.assign (Operand.tmp 29), type := 60, pos := "merkle.go:74", after := #[{ on := 12, ground := Ground.data }, { on := 12, ground := Ground.chain }, { on := 0, ground := Ground.phase }, { on := 1, ground := Ground.phase }, { on := 2, ground := Ground.phase }, { on := 3, ground := Ground.phase }, { on := 4, ground := Ground.phase }, { on := 5, ground := Ground.phase }, { on := 6, ground := Ground.phase }, { on := 7, ground := Ground.phase }, { on := 8, ground := Ground.phase }, { on := 9, ground := Ground.phase }, { on := 10, ground := Ground.phase }, { on := 11, ground := Ground.phase }, { on := 12, ground := Ground.phase }], guard := none }) (v := ?vpathl11) rfl (by kernel_rfl) (by kernel_rfl) (by kernel_rfl) (fun _ _ _ h => h) (Or.inl ⟨by rfl, ?ypathl11⟩) hk ?rpathl11
      case ypathl11 => (intro w hSw; (try dsimp only at hSw); go_simp; first | done | with_reducible rfl)
      simp only [Act.put, List.setIfInBounds_toArray, List.set_cons_zero, List.set_cons_succ]
      refine wpAnyH_done (by decide +kernel) ?_ _
      clear hc1 hc2 HI1 HR1
      go_wp2
      go_ret
      exact ⟨_, rfl, by rw [HE.out, List.length_append]; exact hown2, hk⟩
    · have HE : Bx (pathL L i x = pathL (L.drop (splitN len)) (i - splitN len) x ++ [rootL (L.take (splitN len)) x]) := ⟨by rw [pathL_right L i x (by omega) (by rw [hlen]; exact hik), hlen]⟩
      have HI2 : Bx (∀ W, Below w.heap.size w W → Calls Tryd.prog 82 #[.slice (some ⟨b, off + 32 * splitN len, none⟩) (len - splitN len) (cap - splitN len), .int .i64 ((i : Int) - (splitN len : Int)), .int .i64 x] W fun e w' => ∃ v, e = .returned v ∧ w'.ownsRow W.heap.size 30 32 v (pathL (L.drop (splitN len)) (i - splitN len) x).length (bv (pathL (L.drop (splitN len)) (i - splitN len) x).flatten) ∧ Below W.heap.size W w') :=
        ⟨fun W hW => by
          have h := ih (len - splitN len) (by omega) _ _ _ _ (i - splitN len) x W (Nat.le_refl _) ((hL.below hW).drop (splitN len) (by omega)) (htab.below hW) (by omega) (by omega)
          rw [show ((i - splitN len : Nat) : Int) = (i : Int) - (splitN len : Int) from by omega] at h
          exact h⟩
      have HR2 : Bx (∀ W, Below w.heap.size w W → Calls Tryd.prog 80 #[.slice (some ⟨b, off, none⟩) (splitN len) cap, .int .i64 x] W fun e w' => e = .returned (.agg (bv (rootL (L.take (splitN len)) x)).toArray) ∧ Below W.heap.size W w') :=
        ⟨fun W hW => root_any (splitN len) _ _ _ _ x W (Nat.le_refl _) ((hL.below hW).take _ (by omega)) (htab.below hW) (by omega)⟩
      have hR := rootL_dg (L.take (splitN len)) x (hL.dig.take _)
      have hpl := pathL_len (len - splitN len) (L.drop (splitN len)) (i - splitN len) x (by rw [List.length_drop]; omega)
      have hki : ¬ (i : Int) < (splitN len : Int) := by omega
      have hsb : IntKind.i64.wrap ((i : Int) - (splitN len : Int)) = (i : Int) - (splitN len : Int) := IntWalk.i64_in _ (by omega)
      generalize rootL (L.take (splitN len)) x = R at HE HR2 hR
      generalize pathL (L.drop (splitN len)) (i - splitN len) x = PL at HE HI2 hpl
      generalize splitN len = k at hk1 hk2 HSP HI2 HR2 hc1 hc2 hpl hki hsb
      clear hcc hL htab ih hlen hik
      go_enter Tryd.func82, Tryd.ntmps82
      go_wp2_with fail
      refine (HSP.out _).mono ?_
      rintro e w' ⟨rfl, rfl⟩
      generalize hm : off + 32 * k = o2 at hc2 HI2
      generalize hm2 : len - k = l2 at hc2 HI2 hpl
      generalize hm3 : cap - k = c2 at hc2 HI2
      have hl2 : l2 ≤ 1000000 := by omega
      clear hm hm2 hm3 HSP
      go_wp2_with fail
      have hk : Below w.heap.size w w.drew := below_drewN (Below.refl _ _) 1
      refine wp_region_held_drew (S := fun W => Below w.heap.size w W) (by kernel_rfl) hk (fun _ => ?_)
      refine wpAnyH_take (i := 0) (oi := { dst := some 30, op := Op.move (Operand.tmp 0), type := 60, pos := "merkle.go:76", after := #[], guard := none }) (v := ?vpathr1) rfl (by kernel_rfl) (by kernel_rfl) (by kernel_rfl) (fun _ _ _ h => h) (Or.inl ⟨by rfl, ?ypathr1⟩) hk ?rpathr1
      case ypathr1 => (intro w hSw; (try dsimp only at hSw); go_simp; first | done | with_reducible rfl)
      simp only [Act.put, List.setIfInBounds_toArray, List.set_cons_zero, List.set_cons_succ]
      refine wpAnyH_take (i := 1) (oi := { dst := some 31, op := Op.move (Operand.tmp 7), type := 3, pos := "merkle.go:76", after := #[], guard := none }) (v := ?vpathr2) rfl (by kernel_rfl) (by kernel_rfl) (by kernel_rfl) (fun _ _ _ h => h) (Or.inl ⟨by rfl, ?ypathr2⟩) hk ?rpathr2
      case ypathr2 => (intro w hSw; (try dsimp only at hSw); go_simp; first | done | with_reducible rfl)
      simp only [Act.put, List.setIfInBounds_toArray, List.set_cons_zero, List.set_cons_succ]
      refine wpAnyH_take (i := 2) (oi := { dst := some 32, op := Op.slice 60 (Operand.tmp 30) (some (Operand.tmp 31)) none none, type := 60, pos := "merkle.go:76", after := #[{ on := 0, ground := Ground.data }, { on := 1, ground := Ground.data }], guard := none }) (v := ?vpathr3) rfl (by kernel_rfl) (by kernel_rfl) (by kernel_rfl) (fun _ _ _ h => h) (Or.inl ⟨by rfl, ?ypathr3⟩) hk ?rpathr3
      case ypathr3 => (intro w hSw; (try dsimp only at hSw); go_simp; first | done | with_reducible rfl)
      simp only [Act.put, List.setIfInBounds_toArray, List.set_cons_zero, List.set_cons_succ]
      refine wpAnyH_take (i := 3) (oi := { dst := some 33, op := Op.move (Operand.tmp 1), type := 3, pos := "merkle.go:76", after := #[], guard := none }) (v := ?vpathr4) rfl (by kernel_rfl) (by kernel_rfl) (by kernel_rfl) (fun _ _ _ h => h) (Or.inl ⟨by rfl, ?ypathr4⟩) hk ?rpathr4
      case ypathr4 => (intro w hSw; (try dsimp only at hSw); go_simp; first | done | with_reducible rfl)
      simp only [Act.put, List.setIfInBounds_toArray, List.set_cons_zero, List.set_cons_succ]
      refine wpAnyH_take (i := 4) (oi := { dst := some 34, op := Op.move (Operand.tmp 7), type := 3, pos := "merkle.go:76", after := #[], guard := none }) (v := ?vpathr5) rfl (by kernel_rfl) (by kernel_rfl) (by kernel_rfl) (fun _ _ _ h => h) (Or.inl ⟨by rfl, ?ypathr5⟩) hk ?rpathr5
      case ypathr5 => (intro w hSw; (try dsimp only at hSw); go_simp; first | done | with_reducible rfl)
      simp only [Act.put, List.setIfInBounds_toArray, List.set_cons_zero, List.set_cons_succ]
      refine wpAnyH_take (i := 5) (oi := { dst := some 35, op := Op.binOp BinOp.sub 3 (Operand.tmp 33) (Operand.tmp 34) 3, type := 3, pos := "merkle.go:76", after := #[{ on := 3, ground := Ground.data }, { on := 4, ground := Ground.data }], guard := none }) (v := ?vpathr6) rfl (by kernel_rfl) (by kernel_rfl) (by kernel_rfl) (fun _ _ _ h => h) (Or.inl ⟨by rfl, ?ypathr6⟩) hk ?rpathr6
      case ypathr6 => (intro w hSw; (try dsimp only at hSw); go_simp; first | done | with_reducible rfl)
      simp only [Act.put, List.setIfInBounds_toArray, List.set_cons_zero, List.set_cons_succ]
      refine wpAnyH_take (i := 6) (oi := { dst := some 36, op := Op.move (Operand.tmp 2), type := 3, pos := "merkle.go:76", after := #[], guard := none }) (v := ?vpathr7) rfl (by kernel_rfl) (by kernel_rfl) (by kernel_rfl) (fun _ _ _ h => h) (Or.inl ⟨by rfl, ?ypathr7⟩) hk ?rpathr7
      case ypathr7 => (intro w hSw; (try dsimp only at hSw); go_simp; first | done | with_reducible rfl)
      simp only [Act.put, List.setIfInBounds_toArray, List.set_cons_zero, List.set_cons_succ]
      refine wpAnyH_take (i := 8) (oi := { dst := some 38, op := Op.move (Operand.tmp 0), type := 60, pos := "merkle.go:76", after := #[], guard := none }) (v := ?vpathr8) rfl (by kernel_rfl) (by kernel_rfl) (by kernel_rfl) (fun _ _ _ h => h) (Or.inl ⟨by rfl, ?ypathr8⟩) hk ?rpathr8
      case ypathr8 => (intro w hSw; (try dsimp only at hSw); go_simp; first | done | with_reducible rfl)
      simp only [Act.put, List.setIfInBounds_toArray, List.set_cons_zero, List.set_cons_succ]
      refine wpAnyH_take (i := 9) (oi := { dst := some 39, op := Op.move (Operand.tmp 7), type := 3, pos := "merkle.go:76", after := #[], guard := none }) (v := ?vpathr9) rfl (by kernel_rfl) (by kernel_rfl) (by kernel_rfl) (fun _ _ _ h => h) (Or.inl ⟨by rfl, ?ypathr9⟩) hk ?rpathr9
      case ypathr9 => (intro w hSw; (try dsimp only at hSw); go_simp; first | done | with_reducible rfl)
      simp only [Act.put, List.setIfInBounds_toArray, List.set_cons_zero, List.set_cons_succ]
      refine wpAnyH_take (i := 10) (oi := { dst := some 40, op := Op.slice 60 (Operand.tmp 38) none (some (Operand.tmp 39)) none, type := 60, pos := "merkle.go:76", after := #[{ on := 8, ground := Ground.data }, { on := 9, ground := Ground.data }], guard := none }) (v := ?vpathr10) rfl (by kernel_rfl) (by kernel_rfl) (by kernel_rfl) (fun _ _ _ h => h) (Or.inl ⟨by rfl, ?ypathr10⟩) hk ?rpathr10
      case ypathr10 => (intro w hSw; (try dsimp only at hSw); go_simp; first | done | with_reducible rfl)
      simp only [Act.put, List.setIfInBounds_toArray, List.set_cons_zero, List.set_cons_succ]
      refine wpAnyH_take (i := 11) (oi := { dst := some 41, op := Op.move (Operand.tmp 2), type := 3, pos := "merkle.go:76", after := #[], guard := none }) (v := ?vpathr11) rfl (by kernel_rfl) (by kernel_rfl) (by kernel_rfl) (fun _ _ _ h => h) (Or.inl ⟨by rfl, ?ypathr11⟩) hk ?rpathr11
      case ypathr11 => (intro w hSw; (try dsimp only at hSw); go_simp; first | done | with_reducible rfl)
      simp only [Act.put, List.setIfInBounds_toArray, List.set_cons_zero, List.set_cons_succ]
      refine wpAnyH_ready (rs := [7]) (by decide +kernel) (by simp) ?_
      refine AllReadyH.cons (o := { dst := some 37, op := Op.call { callee := Callee.value (Operand.func 82), args := #[Operand.tmp 32, Operand.tmp 35, Operand.tmp 36], argTypes := #[60, 3, 3] }, type := 60, pos := "merkle.go:76", after := #[{ on := 2, ground := Ground.data }, { on := 5, ground := Ground.data }, { on := 6, ground := Ground.data }], guard := none }) rfl (fun K hK => ?_) AllReadyH.nil
      go_simp
      refine (HI2.out _ hk).mono ?_
      rintro e1 w7 ⟨v7, rfl, hown0, hb1⟩
      have hown := owns_base hown0 hk.size
      replace hk := hk.trans (hb1.mono hk.size)
      clear hb1 hown0
      refine hK.out _ _ hk (fun _ => ?_)
      clear hK K
      try simp only [Act.put, List.setIfInBounds_toArray, List.set_cons_zero, List.set_cons_succ]
      refine wpAnyH_ready (rs := [12]) (by decide +kernel) (by simp) ?_
      refine AllReadyH.cons (o := { dst := some 42, op := Op.call { callee := Callee.value (Operand.func 80), args := #[Operand.tmp 40, Operand.tmp 41], argTypes := #[60, 3] }, type := 30, pos := "merkle.go:76", after := #[{ on := 10, ground := Ground.data }, { on := 11, ground := Ground.data }, { on := 7, ground := Ground.chain }], guard := none }) rfl (fun K hK => ?_) AllReadyH.nil
      go_simp
      refine (HR2.out _ hk).mono ?_
      rintro e1 w12 ⟨rfl, hb1⟩
      replace hown := owns_below hown hb1
      replace hk := hk.trans (hb1.mono hk.size)
      clear hb1
      refine hK.out _ _ hk (fun _ => ?_)
      clear hK K
      try simp only [Act.put, List.setIfInBounds_toArray, List.set_cons_zero, List.set_cons_succ]
      refine wpAnyH_ready (rs := [13]) (by decide +kernel) (by simp) ?_
      refine AllReadyH.cons (o := { dst := some 43, op := Op.buildSlice 60 1 #[(0, Operand.tmp 42)], type := 60, pos := "merkle.go:76", after := #[{ on := 12, ground := Ground.data }], guard := none }) rfl (fun K hK => ?_) AllReadyH.nil
      rw [if_pos (by rfl)]
      refine wp_build_one (.tmp 42) rfl R hR.1 rfl ?_
      have hone := one_new w12 R hR
      replace hown := owns_new hown rfl (.cells (bv R).toArray 30)
      replace hk := hk.alloc hk.size (.cells (bv R).toArray 30)
      simp only [Act.put, List.setIfInBounds_toArray, List.set_cons_zero, List.set_cons_succ]
      refine hK.out _ _ hk (fun _ => ?_)
      clear hK K
      try simp only [Act.put, List.setIfInBounds_toArray, List.set_cons_zero, List.set_cons_succ]
      refine wpAnyH_ready (rs := [14]) (by decide +kernel) (by simp) ?_
      refine AllReadyH.cons (o := { dst := some 44, op := Op.call { callee := Callee.builtin Builtin.append, args := #[Operand.tmp 37, Operand.tmp 43], argTypes := #[60, 60] }, type := 60, pos := "merkle.go:76", after := #[{ on := 7, ground := Ground.data }, { on := 13, ground := Ground.data }, { on := 12, ground := Ground.chain }], guard := none }) rfl (fun K hK => ?_) AllReadyH.nil
      refine step_append_dgs rfl (.tmp 37) (.tmp 43) rfl w.heap.size PL.length _ PL rfl hown _ 1 1 [R] rfl hone (by omega) hk.size ?_
      intro v14 w14 hown2 hb1 _
      replace hk := hk.trans hb1
      clear hb1 hown hone
      refine hK.out _ _ hk (fun _ => ?_)
      clear hK K
      try simp only [Act.put, List.setIfInBounds_toArray, List.set_cons_zero, List.set_cons_succ]
      refine wpAnyH_take (i := 15) (oi := { dst := some 6, op := Op.assign (Operand.tmp 44), type := 60, pos := "merkle.go:76", after := #[{ on := 14, ground := Ground.data }, { on := 14, ground := Ground.chain }, { on := 0, ground := Ground.phase }, { on := 1, ground := Ground.phase }, { on := 2, ground := Ground.phase }, { on := 3, ground := Ground.phase }, { on := 4, ground := Ground.phase }, { on := 5, ground := Ground.phase }, { on := 6, ground := Ground.phase }, { on := 7, ground := Ground.phase }, { on := 8, ground := Ground.phase }, { on := 9, ground := Ground.phase }, { on := 10, ground := Ground.phase }, { on := 11, ground := Ground.phase }, { on := 12, ground := Ground.phase }, { on := 13, ground := Ground.phase }, { on := 14, ground := Ground.phase }], guard := none }) (v := ?vpathr13) rfl (by kernel_rfl) (by kernel_rfl) (by kernel_rfl) (fun _ _ _ h => h) (Or.inl ⟨by rfl, ?ypathr13⟩) hk ?rpathr13
      case ypathr13 => (intro w hSw; (try dsimp only at hSw); go_simp; first | done | with_reducible rfl)
      simp only [Act.put, List.setIfInBounds_toArray, List.set_cons_zero, List.set_cons_succ]
      refine wpAnyH_done (by decide +kernel) ?_ _
      clear hc1 hc2 HI2 HR2
      go_wp2
      go_ret
      exact ⟨_, rfl, by rw [HE.out, List.length_append]; exact hown2, hk⟩
end Go.Proofs.YtbednfacipphhaaDoor
namespace Go.Proofs.YtbednfacipphhaaDoor
open Go.RowKit
set_option linter.unusedVariables false

/-- the path of whatever place, and the error -/
def pV (L : List (List Int)) (i : Int) (x : Int) : List (List Int) := if 0 ≤ i ∧ i < (L.length : Int) then pathL L i.toNat x else []
def pE (n : Nat) (i : Int) : Int := if 0 ≤ i ∧ i < (n : Int) then 0 else 2
set_option maxRecDepth 100000 in
theorem pV_dg {L : List (List Int)} (h : Dgl L) (i x : Int) : Dgl (pV L i x) := by
  unfold pV; split
  · exact pathL_dg L.length L _ x (Nat.le_refl _) h
  · exact Dgl.nil
set_option maxRecDepth 100000 in
theorem pV_len (L : List (List Int)) (i x : Int) : (pV L i x).length ≤ L.length := by
  unfold pV; split
  · exact pathL_len L.length L _ x (Nat.le_refl _)
  · exact Nat.zero_le _

set_option maxRecDepth 100000 in
theorem path_any (a : Option Addr) (len cap : Nat) (L : List (List Int)) (i x : Int) (w : World) (hL : Dgs w a len cap L) (htab : Tab w) (hbd : len ≤ 1000000) :
    Calls Tryd.prog 56 #[.slice a len cap, .int .i64 i, .int .i64 x] w fun e w' => ∃ v, e = .returned (.tuple #[v, .int .i64 (pE len i)]) ∧ w'.ownsRow w.heap.size 30 32 v (pV L i x).length (bv (pV L i x).flatten) ∧ Below w.heap.size w w' := by
  have hlen := hL.len_eq
  by_cases hin : 0 ≤ i ∧ i < (len : Int)
  · have HV : Bx (pV L i x = pathL L i.toNat x) := ⟨by unfold pV; rw [hlen, if_pos hin]⟩
    have HE : Bx (pE len i = 0) := ⟨if_pos hin⟩
    rw [HE.out, HV.out]
    obtain ⟨j, rfl⟩ : ∃ j : Nat, i = (j : Int) := ⟨i.toNat, by omega⟩
    have h1 : decide ((j : Int) < 0) = false := by simp
    have h2 : decide (len ≤ j) = false := by simp; omega
    have HP : Bx (Calls Tryd.prog 82 #[.slice a len cap, .int .i64 j, .int .i64 x] w fun e w' => ∃ v, e = .returned v ∧ w'.ownsRow w.heap.size 30 32 v (pathL L j x).length (bv (pathL L j x).flatten) ∧ Below w.heap.size w w') := ⟨pathin_any len a len cap L j x w (Nat.le_refl _) hL htab hbd (by omega)⟩
    have ht : ((j : Int)).toNat = j := by omega
    rw [ht]
    clear hL htab hlen HV HE hin ht
    go_enter Tryd.func56, Tryd.ntmps56
    go_wp2_with fail
    refine HP.out.mono ?_
    rintro e w1 ⟨v, rfl, ho, hb⟩
    clear HP
    go_wp2
    go_ret2
    exact ⟨v, rfl, ho, hb⟩
  · have HV : Bx (pV L i x = []) := ⟨by unfold pV; rw [hlen, if_neg hin]⟩
    have HE : Bx (pE len i = 2) := ⟨if_neg hin⟩
    rw [HE.out, HV.out]
    have hon := World.ownsRow_nil w w.heap.size 30 32
    by_cases h0 : i < 0
    · have h1 : decide (i < 0) = true := by simpa using h0
      clear hL htab hlen HV HE hin
      go_enter Tryd.func56, Tryd.ntmps56
      go_wp2
      go_ret2
      exact ⟨_, rfl, hon, Below.refl _ _⟩
    · have h1 : decide (i < 0) = false := by simpa using h0
      have h2 : decide (i ≥ (len : Int)) = true := by simp; omega
      clear hL htab hlen HV HE hin
      go_enter Tryd.func56, Tryd.ntmps56
      go_wp2
      go_ret2
      exact ⟨_, rfl, hon, Below.refl _ _⟩
end Go.Proofs.YtbednfacipphhaaDoor
