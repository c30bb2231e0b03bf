/- What merkle's Growth answers: digests in memory of its own. -/
import Derived.Test.YtbednfacipphhaaDoorRoot
import Derived.Test.YtbednfacipphhaaDoorAuaj
namespace Go.Proofs.YtbednfacipphhaaDoor
open Go.RowKit
set_option linter.unusedVariables false

/-- the growth from whatever beginning, and the error -/
def gV (L : List (List Int)) (m : Int) (x : Int) : List (List Int) := if 1 ≤ m ∧ m ≤ (L.length : Int) then growL L m.toNat true x else []
def gE (n : Nat) (m : Int) : Int := if 1 ≤ m ∧ m ≤ (n : Int) then 0 else 2
set_option maxRecDepth 100000 in
theorem gV_dg {L : List (List Int)} (h : Dgl L) (m x : Int) : Dgl (gV L m x) := by
  unfold gV; split
  · exact growL_dg L.length L _ true x (Nat.le_refl _) (by omega) (by omega) h
  · exact Dgl.nil
set_option maxRecDepth 100000 in
theorem gV_len (L : List (List Int)) (m x : Int) : (gV L m x).length ≤ L.length := by
  unfold gV; split
  · exact growL_len L.length L _ true x (Nat.le_refl _) (by omega) (by omega)
  · exact Nat.zero_le _

set_option maxRecDepth 100000 in
set_option maxHeartbeats 1000000 in
theorem growin_any (n : Nat) : ∀ (a : Option Addr) (len cap : Nat) (L : List (List Int)) (m : Nat) (b : Bool) (x : Int) (w : World), len ≤ n → Dgs w a len cap L → Tab w → len ≤ 1000000 → 1 ≤ m → m ≤ len →
    Calls Tryd.prog 83 #[.slice a len cap, .int .i64 m, .bool b, .int .i64 x] w fun e w' => ∃ v, e = .returned v ∧ w'.ownsRow w.heap.size 30 32 v (growL (L) (m) b x).length (bv (growL (L) (m) b x).flatten) ∧ Below w.heap.size w w' := by
  induction n using Nat.strongRecOn with
  | ind n ih =>
  intro a len cap L m b x w hn hL htab hbd h1m hml
  have hlen := hL.len_eq
  by_cases hm : m = len
  · subst hm
    have q1 : ((m : Int) == (m : Int)) = true := by simp
    cases b with
    | true =>
      have HE : Bx (growL L m true x = []) := ⟨by rw [← hlen]; exact growL_all L x⟩
      clear ih hL
      go_enter Tryd.func83, Tryd.ntmps83
      go_wp2
      go_ret
      exact ⟨_, rfl, by rw [HE.out]; exact World.ownsRow_nil _ _ _ _, Below.refl _ _⟩
    | false =>
      have HE : Bx (growL L m false x = [rootL L x]) := ⟨by rw [← hlen]; exact growL_some L x⟩
      have HR : Bx (Calls Tryd.prog 80 #[.slice a m cap, .int .i64 x] w fun e w' => e = .returned (.agg (bv (rootL L x)).toArray) ∧ Below w.heap.size w w') := ⟨root_any m a m cap L x w (Nat.le_refl _) hL htab hbd⟩
      have hR := rootL_dg L x hL.dig
      generalize rootL L x = R at HE HR hR
      clear ih hL htab
      go_enter Tryd.func83, Tryd.ntmps83
      go_wp2_with fail
      refine HR.out.mono ?_
      rintro e w1 ⟨rfl, hb1⟩
      have hown : (w1.alloc (.cells (bv R).toArray 30)).ownsRow w.heap.size 30 32 (.slice (some ⟨w1.heap.size, 0, none⟩) 1 1) 1 (bv R) := World.ownsRow_lit w1 (bv R).toArray 1 hb1.size (by unfold maxLen; omega) (by rw [List.size_toArray, bv_length, hR.1])
      have hb2 := hb1.alloc hb1.size (.cells (bv R).toArray 30)
      clear HR hb1
      go_wp2_with (refine wpList_build_one rfl (.tmp 17) rfl R hR.1 rfl ?_; generalize w1.alloc (.cells (bv R).toArray 30) = w2 at hown hb2 ⊢)
      go_ret
      exact ⟨_, rfl, by rw [HE.out]; simpa using hown, hb2⟩
  · have q1 : ((m : Int) == (len : Int)) = false := by simp; omega
    obtain ⟨bk, off, rfl, hlt, hcc⟩ := hL.spot (by omega)
    have hk1 := splitN_pos (n := len) (by omega)
    have hk2 := splitN_lt (n := len) (by omega)
    have hcap := hL.le_cap
    have HSP : Bx (∀ W, Calls Tryd.prog 84 #[.int .i64 (len : Int)] W fun e w' => e = .returned (.int .i64 (splitN len : Int)) ∧ W = w') := ⟨fun W => split_any (len : Int) W (by omega)⟩
    have hc1 := dgs_cut bk off len cap (splitN len) (by omega)
    have hc2 := dgs_rest bk off len cap (splitN len) (by omega) (by omega)
    by_cases hmk : m ≤ splitN len
    · have HE : Bx (growL L m b x = growL (L.take (splitN len)) m b x ++ [rootL (L.drop (splitN len)) x]) := ⟨by rw [growL_left L m b x h1m (by omega) (by rw [hlen]; exact hmk), hlen]⟩
      have HI1 : Bx (∀ W, Below w.heap.size w W → Calls Tryd.prog 83 #[.slice (some ⟨bk, off, none⟩) (splitN len) cap, .int .i64 m, .bool b, .int .i64 x] W fun e w' => ∃ v, e = .returned v ∧ w'.ownsRow W.heap.size 30 32 v (growL (L.take (splitN len)) (m) b x).length (bv (growL (L.take (splitN len)) (m) b x).flatten) ∧ Below W.heap.size W w') :=
        ⟨fun W hW => ih (splitN len) (by omega) _ _ _ _ m b x W (Nat.le_refl _) ((hL.below hW).take _ (by omega)) (htab.below hW) (by omega) h1m hmk⟩
      have HR1 : Bx (∀ W, Below w.heap.size w W → Calls Tryd.prog 80 #[.slice (some ⟨bk, off + 32 * splitN len, none⟩) (len - splitN len) (cap - splitN len), .int .i64 x] W fun e w' => e = .returned (.agg (bv (rootL (L.drop (splitN len)) x)).toArray) ∧ Below W.heap.size W w') :=
        ⟨fun W hW => root_any (len - splitN len) _ _ _ _ x W (Nat.le_refl _) ((hL.below hW).drop _ (by omega)) (htab.below hW) (by omega)⟩
      have hR := rootL_dg (L.drop (splitN len)) x (hL.dig.drop _)
      have hpl := growL_len (splitN len) (L.take (splitN len)) m b x (by rw [List.length_take]; omega) h1m (by rw [List.length_take]; omega)
      have hki : (m : Int) ≤ (splitN len : Int) := by omega
      generalize rootL (L.drop (splitN len)) x = R at HE HR1 hR
      generalize growL (L.take (splitN len)) m b x = PL at HE HI1 hpl
      generalize splitN len = k at hk1 hk2 HSP HI1 HR1 hc1 hc2 hpl hki
      clear hcc hL htab ih hlen hmk hm
      go_enter Tryd.func83, Tryd.ntmps83
      go_wp2_with fail
      refine (HSP.out _).mono ?_
      rintro e w' ⟨rfl, rfl⟩
      generalize hm : off + 32 * k = o2 at hc2 HR1
      generalize hm2 : len - k = l2 at hc2 HR1
      generalize hm3 : cap - k = c2 at hc2 HR1
      clear hm hm2 hm3 HSP
      go_wp2_with fail
      have hk : Below w.heap.size w w.drew := below_drewN (Below.refl _ _) 1
      refine wp_region_held_drew (S := fun W => Below w.heap.size w W) (by kernel_rfl) hk (fun _ => ?_)
      refine wpAnyH_take (i := 0) (oi := { dst := some 25, op := Op.move (Operand.tmp 0), type := 60, pos := "merkle.go:124", after := #[], guard := none }) (v := ?vgrowl1) rfl (by kernel_rfl) (by kernel_rfl) (by kernel_rfl) (fun _ _ _ h => h) (Or.inl ⟨by rfl, ?ygrowl1⟩) hk ?rgrowl1
      case ygrowl1 => (intro w hSw; (try dsimp only at hSw); go_simp; first | done | with_reducible rfl)
      simp only [Act.put, List.setIfInBounds_toArray, List.set_cons_zero, List.set_cons_succ]
      refine wpAnyH_take (i := 1) (oi := { dst := some 26, op := Op.move (Operand.tmp 9), type := 3, pos := "merkle.go:124", after := #[], guard := none }) (v := ?vgrowl2) rfl (by kernel_rfl) (by kernel_rfl) (by kernel_rfl) (fun _ _ _ h => h) (Or.inl ⟨by rfl, ?ygrowl2⟩) hk ?rgrowl2
      case ygrowl2 => (intro w hSw; (try dsimp only at hSw); go_simp; first | done | with_reducible rfl)
      simp only [Act.put, List.setIfInBounds_toArray, List.set_cons_zero, List.set_cons_succ]
      refine wpAnyH_take (i := 2) (oi := { dst := some 27, op := Op.slice 60 (Operand.tmp 25) none (some (Operand.tmp 26)) none, type := 60, pos := "merkle.go:124", after := #[{ on := 0, ground := Ground.data }, { on := 1, ground := Ground.data }], guard := none }) (v := ?vgrowl3) rfl (by kernel_rfl) (by kernel_rfl) (by kernel_rfl) (fun _ _ _ h => h) (Or.inl ⟨by rfl, ?ygrowl3⟩) hk ?rgrowl3
      case ygrowl3 => (intro w hSw; (try dsimp only at hSw); go_simp; first | done | with_reducible rfl)
      simp only [Act.put, List.setIfInBounds_toArray, List.set_cons_zero, List.set_cons_succ]
      refine wpAnyH_take (i := 3) (oi := { dst := some 28, op := Op.move (Operand.tmp 1), type := 3, pos := "merkle.go:124", after := #[], guard := none }) (v := ?vgrowl4) rfl (by kernel_rfl) (by kernel_rfl) (by kernel_rfl) (fun _ _ _ h => h) (Or.inl ⟨by rfl, ?ygrowl4⟩) hk ?rgrowl4
      case ygrowl4 => (intro w hSw; (try dsimp only at hSw); go_simp; first | done | with_reducible rfl)
      simp only [Act.put, List.setIfInBounds_toArray, List.set_cons_zero, List.set_cons_succ]
      refine wpAnyH_take (i := 4) (oi := { dst := some 29, op := Op.move (Operand.tmp 2), type := 4, pos := "merkle.go:124", after := #[], guard := none }) (v := ?vgrowl5) rfl (by kernel_rfl) (by kernel_rfl) (by kernel_rfl) (fun _ _ _ h => h) (Or.inl ⟨by rfl, ?ygrowl5⟩) hk ?rgrowl5
      case ygrowl5 => (intro w hSw; (try dsimp only at hSw); go_simp; first | done | with_reducible rfl)
      simp only [Act.put, List.setIfInBounds_toArray, List.set_cons_zero, List.set_cons_succ]
      refine wpAnyH_take (i := 5) (oi := { dst := some 30, op := Op.move (Operand.tmp 3), type := 3, pos := "merkle.go:124", after := #[], guard := none }) (v := ?vgrowl6) rfl (by kernel_rfl) (by kernel_rfl) (by kernel_rfl) (fun _ _ _ h => h) (Or.inl ⟨by rfl, ?ygrowl6⟩) hk ?rgrowl6
      case ygrowl6 => (intro w hSw; (try dsimp only at hSw); go_simp; first | done | with_reducible rfl)
      simp only [Act.put, List.setIfInBounds_toArray, List.set_cons_zero, List.set_cons_succ]
      refine wpAnyH_take (i := 7) (oi := { dst := some 32, op := Op.move (Operand.tmp 0), type := 60, pos := "merkle.go:124", after := #[], guard := none }) (v := ?vgrowl7) rfl (by kernel_rfl) (by kernel_rfl) (by kernel_rfl) (fun _ _ _ h => h) (Or.inl ⟨by rfl, ?ygrowl7⟩) hk ?rgrowl7
      case ygrowl7 => (intro w hSw; (try dsimp only at hSw); go_simp; first | done | with_reducible rfl)
      simp only [Act.put, List.setIfInBounds_toArray, List.set_cons_zero, List.set_cons_succ]
      refine wpAnyH_take (i := 8) (oi := { dst := some 33, op := Op.move (Operand.tmp 9), type := 3, pos := "merkle.go:124", after := #[], guard := none }) (v := ?vgrowl8) rfl (by kernel_rfl) (by kernel_rfl) (by kernel_rfl) (fun _ _ _ h => h) (Or.inl ⟨by rfl, ?ygrowl8⟩) hk ?rgrowl8
      case ygrowl8 => (intro w hSw; (try dsimp only at hSw); go_simp; first | done | with_reducible rfl)
      simp only [Act.put, List.setIfInBounds_toArray, List.set_cons_zero, List.set_cons_succ]
      refine wpAnyH_take (i := 9) (oi := { dst := some 34, op := Op.slice 60 (Operand.tmp 32) (some (Operand.tmp 33)) none none, type := 60, pos := "merkle.go:124", after := #[{ on := 7, ground := Ground.data }, { on := 8, ground := Ground.data }], guard := none }) (v := ?vgrowl9) rfl (by kernel_rfl) (by kernel_rfl) (by kernel_rfl) (fun _ _ _ h => h) (Or.inl ⟨by rfl, ?ygrowl9⟩) hk ?rgrowl9
      case ygrowl9 => (intro w hSw; (try dsimp only at hSw); go_simp; first | done | with_reducible rfl)
      simp only [Act.put, List.setIfInBounds_toArray, List.set_cons_zero, List.set_cons_succ]
      refine wpAnyH_take (i := 10) (oi := { dst := some 35, op := Op.move (Operand.tmp 3), type := 3, pos := "merkle.go:124", after := #[], guard := none }) (v := ?vgrowl10) rfl (by kernel_rfl) (by kernel_rfl) (by kernel_rfl) (fun _ _ _ h => h) (Or.inl ⟨by rfl, ?ygrowl10⟩) hk ?rgrowl10
      case ygrowl10 => (intro w hSw; (try dsimp only at hSw); go_simp; first | done | with_reducible rfl)
      simp only [Act.put, List.setIfInBounds_toArray, List.set_cons_zero, List.set_cons_succ]
      refine wpAnyH_ready (rs := [6]) (by decide +kernel) (by simp) ?_
      refine AllReadyH.cons (o := { dst := some 31, op := Op.call { callee := Callee.value (Operand.func 83), args := #[Operand.tmp 27, Operand.tmp 28, Operand.tmp 29, Operand.tmp 30], argTypes := #[60, 3, 4, 3] }, type := 60, pos := "merkle.go:124", after := #[{ on := 2, ground := Ground.data }, { on := 3, ground := Ground.data }, { on := 4, ground := Ground.data }, { on := 5, ground := Ground.data }], guard := none }) rfl (fun K hK => ?_) AllReadyH.nil
      go_simp
      refine (HI1.out _ hk).mono ?_
      rintro e1 w6 ⟨v6, rfl, hown0, hb1⟩
      have hown := owns_base hown0 hk.size
      replace hk := hk.trans (hb1.mono hk.size)
      clear hb1 hown0
      refine hK.out _ _ hk (fun _ => ?_)
      clear hK K
      try simp only [Act.put, List.setIfInBounds_toArray, List.set_cons_zero, List.set_cons_succ]
      refine wpAnyH_ready (rs := [11]) (by decide +kernel) (by simp) ?_
      refine AllReadyH.cons (o := { dst := some 36, op := Op.call { callee := Callee.value (Operand.func 80), args := #[Operand.tmp 34, Operand.tmp 35], argTypes := #[60, 3] }, type := 30, pos := "merkle.go:124", after := #[{ on := 9, ground := Ground.data }, { on := 10, ground := Ground.data }, { on := 6, ground := Ground.chain }], guard := none }) rfl (fun K hK => ?_) AllReadyH.nil
      go_simp
      refine (HR1.out _ hk).mono ?_
      rintro e1 w11 ⟨rfl, hb1⟩
      replace hown := owns_below hown hb1
      replace hk := hk.trans (hb1.mono hk.size)
      clear hb1
      refine hK.out _ _ hk (fun _ => ?_)
      clear hK K
      try simp only [Act.put, List.setIfInBounds_toArray, List.set_cons_zero, List.set_cons_succ]
      refine wpAnyH_ready (rs := [12]) (by decide +kernel) (by simp) ?_
      refine AllReadyH.cons (o := { dst := some 37, op := Op.buildSlice 60 1 #[(0, Operand.tmp 36)], type := 60, pos := "merkle.go:124", after := #[{ on := 11, ground := Ground.data }], guard := none }) rfl (fun K hK => ?_) AllReadyH.nil
      rw [if_pos (by rfl)]
      refine wp_build_one (.tmp 36) rfl R hR.1 rfl ?_
      have hone := one_new w11 R hR
      replace hown := owns_new hown rfl (.cells (bv R).toArray 30)
      replace hk := hk.alloc hk.size (.cells (bv R).toArray 30)
      simp only [Act.put, List.setIfInBounds_toArray, List.set_cons_zero, List.set_cons_succ]
      refine hK.out _ _ hk (fun _ => ?_)
      clear hK K
      try simp only [Act.put, List.setIfInBounds_toArray, List.set_cons_zero, List.set_cons_succ]
      refine wpAnyH_ready (rs := [13]) (by decide +kernel) (by simp) ?_
      refine AllReadyH.cons (o := { dst := some 38, op := Op.call { callee := Callee.builtin Builtin.append, args := #[Operand.tmp 31, Operand.tmp 37], argTypes := #[60, 60] }, type := 60, pos := "merkle.go:124", after := #[{ on := 6, ground := Ground.data }, { on := 12, ground := Ground.data }, { on := 11, ground := Ground.chain }], guard := none }) rfl (fun K hK => ?_) AllReadyH.nil
      refine step_append_dgs rfl (.tmp 31) (.tmp 37) rfl w.heap.size PL.length _ PL rfl hown _ 1 1 [R] rfl hone (by omega) hk.size ?_
      intro vE wE hown2 hb1 _
      replace hk := hk.trans hb1
      clear hb1 hown hone
      refine hK.out _ _ hk (fun _ => ?_)
      clear hK K
      try simp only [Act.put, List.setIfInBounds_toArray, List.set_cons_zero, List.set_cons_succ]
      refine wpAnyH_take (i := 14) (oi := { dst := some 8, op := Op.assign (Operand.tmp 38), type := 60, pos := "merkle.go:124", after := #[{ on := 13, ground := Ground.data }, { on := 13, ground := Ground.chain }, { on := 0, ground := Ground.phase }, { on := 1, ground := Ground.phase }, { on := 2, ground := Ground.phase }, { on := 3, ground := Ground.phase }, { on := 4, ground := Ground.phase }, { on := 5, ground := Ground.phase }, { on := 6, ground := Ground.phase }, { on := 7, ground := Ground.phase }, { on := 8, ground := Ground.phase }, { on := 9, ground := Ground.phase }, { on := 10, ground := Ground.phase }, { on := 11, ground := Ground.phase }, { on := 12, ground := Ground.phase }, { on := 13, ground := Ground.phase }], guard := none }) (v := ?vgrowl12) rfl (by kernel_rfl) (by kernel_rfl) (by kernel_rfl) (fun _ _ _ h => h) (Or.inl ⟨by rfl, ?ygrowl12⟩) hk ?rgrowl12
      case ygrowl12 => (intro w hSw; (try dsimp only at hSw); go_simp; first | done | with_reducible rfl)
      simp only [Act.put, List.setIfInBounds_toArray, List.set_cons_zero, List.set_cons_succ]
      refine wpAnyH_done (by decide +kernel) ?_ _
      clear hc1 hc2 HI1 HR1
      go_wp2
      go_ret
      exact ⟨_, rfl, by rw [HE.out, List.length_append]; exact hown2, hk⟩
    · have HE : Bx (growL L m b x = growL (L.drop (splitN len)) (m - splitN len) false x ++ [rootL (L.take (splitN len)) x]) := ⟨by rw [growL_right L m b x (by omega) (by rw [hlen]; exact hmk), hlen]⟩
      have HI2 : Bx (∀ W, Below w.heap.size w W → Calls Tryd.prog 83 #[.slice (some ⟨bk, off + 32 * splitN len, none⟩) (len - splitN len) (cap - splitN len), .int .i64 ((m : Int) - (splitN len : Int)), .bool false, .int .i64 x] W fun e w' => ∃ v, e = .returned v ∧ w'.ownsRow W.heap.size 30 32 v (growL (L.drop (splitN len)) (m - splitN len) false x).length (bv (growL (L.drop (splitN len)) (m - splitN len) false x).flatten) ∧ Below W.heap.size W w') :=
        ⟨fun W hW => by
          have h := ih (len - splitN len) (by omega) _ _ _ _ (m - splitN len) false x W (Nat.le_refl _) ((hL.below hW).drop (splitN len) (by omega)) (htab.below hW) (by omega) (by omega) (by omega)
          rw [show ((m - splitN len : Nat) : Int) = (m : Int) - (splitN len : Int) from by omega] at h
          exact h⟩
      have HR2 : Bx (∀ W, Below w.heap.size w W → Calls Tryd.prog 80 #[.slice (some ⟨bk, off, none⟩) (splitN len) cap, .int .i64 x] W fun e w' => e = .returned (.agg (bv (rootL (L.take (splitN len)) x)).toArray) ∧ Below W.heap.size W w') :=
        ⟨fun W hW => root_any (splitN len) _ _ _ _ x W (Nat.le_refl _) ((hL.below hW).take _ (by omega)) (htab.below hW) (by omega)⟩
      have hR := rootL_dg (L.take (splitN len)) x (hL.dig.take _)
      have hpl := growL_len (len - splitN len) (L.drop (splitN len)) (m - splitN len) false x (by rw [List.length_drop]; omega) (by omega) (by rw [List.length_drop]; omega)
      have hki : ¬ (m : Int) ≤ (splitN len : Int) := by omega
      have hsb : IntKind.i64.wrap ((m : Int) - (splitN len : Int)) = (m : Int) - (splitN len : Int) := IntWalk.i64_in _ (by omega)
      generalize rootL (L.take (splitN len)) x = R at HE HR2 hR
      generalize growL (L.drop (splitN len)) (m - splitN len) false x = PL at HE HI2 hpl
      generalize splitN len = k at hk1 hk2 HSP HI2 HR2 hc1 hc2 hpl hki hsb
      clear hcc hL htab ih hlen hmk hm
      go_enter Tryd.func83, Tryd.ntmps83
      go_wp2_with fail
      refine (HSP.out _).mono ?_
      rintro e w' ⟨rfl, rfl⟩
      generalize hm : off + 32 * k = o2 at hc2 HI2
      generalize hm2 : len - k = l2 at hc2 HI2 hpl
      generalize hm3 : cap - k = c2 at hc2 HI2
      have hl2 : l2 ≤ 1000000 := by omega
      clear hm hm2 hm3 HSP
      go_wp2_with fail
      have hk : Below w.heap.size w w.drew := below_drewN (Below.refl _ _) 1
      refine wp_region_held_drew (S := fun W => Below w.heap.size w W) (by kernel_rfl) hk (fun _ => ?_)
      refine wpAnyH_take (i := 0) (oi := { dst := some 39, op := Op.move (Operand.tmp 0), type := 60, pos := "merkle.go:126", after := #[], guard := none }) (v := ?vgrowr1) rfl (by kernel_rfl) (by kernel_rfl) (by kernel_rfl) (fun _ _ _ h => h) (Or.inl ⟨by rfl, ?ygrowr1⟩) hk ?rgrowr1
      case ygrowr1 => (intro w hSw; (try dsimp only at hSw); go_simp; first | done | with_reducible rfl)
      simp only [Act.put, List.setIfInBounds_toArray, List.set_cons_zero, List.set_cons_succ]
      refine wpAnyH_take (i := 1) (oi := { dst := some 40, op := Op.move (Operand.tmp 9), type := 3, pos := "merkle.go:126", after := #[], guard := none }) (v := ?vgrowr2) rfl (by kernel_rfl) (by kernel_rfl) (by kernel_rfl) (fun _ _ _ h => h) (Or.inl ⟨by rfl, ?ygrowr2⟩) hk ?rgrowr2
      case ygrowr2 => (intro w hSw; (try dsimp only at hSw); go_simp; first | done | with_reducible rfl)
      simp only [Act.put, List.setIfInBounds_toArray, List.set_cons_zero, List.set_cons_succ]
      refine wpAnyH_take (i := 2) (oi := { dst := some 41, op := Op.slice 60 (Operand.tmp 39) (some (Operand.tmp 40)) none none, type := 60, pos := "merkle.go:126", after := #[{ on := 0, ground := Ground.data }, { on := 1, ground := Ground.data }], guard := none }) (v := ?vgrowr3) rfl (by kernel_rfl) (by kernel_rfl) (by kernel_rfl) (fun _ _ _ h => h) (Or.inl ⟨by rfl, ?ygrowr3⟩) hk ?rgrowr3
      case ygrowr3 => (intro w hSw; (try dsimp only at hSw); go_simp; first | done | with_reducible rfl)
      simp only [Act.put, List.setIfInBounds_toArray, List.set_cons_zero, List.set_cons_succ]
      refine wpAnyH_take (i := 3) (oi := { dst := some 42, op := Op.move (Operand.tmp 1), type := 3, pos := "merkle.go:126", after := #[], guard := none }) (v := ?vgrowr4) rfl (by kernel_rfl) (by kernel_rfl) (by kernel_rfl) (fun _ _ _ h => h) (Or.inl ⟨by rfl, ?ygrowr4⟩) hk ?rgrowr4
      case ygrowr4 => (intro w hSw; (try dsimp only at hSw); go_simp; first | done | with_reducible rfl)
      simp only [Act.put, List.setIfInBounds_toArray, List.set_cons_zero, List.set_cons_succ]
      refine wpAnyH_take (i := 4) (oi := { dst := some 43, op := Op.move (Operand.tmp 9), type := 3, pos := "merkle.go:126", after := #[], guard := none }) (v := ?vgrowr5) rfl (by kernel_rfl) (by kernel_rfl) (by kernel_rfl) (fun _ _ _ h => h) (Or.inl ⟨by rfl, ?ygrowr5⟩) hk ?rgrowr5
      case ygrowr5 => (intro w hSw; (try dsimp only at hSw); go_simp; first | done | with_reducible rfl)
      simp only [Act.put, List.setIfInBounds_toArray, List.set_cons_zero, List.set_cons_succ]
      refine wpAnyH_take (i := 5) (oi := { dst := some 44, op := Op.binOp BinOp.sub 3 (Operand.tmp 42) (Operand.tmp 43) 3, type := 3, pos := "merkle.go:126", after := #[{ on := 3, ground := Ground.data }, { on := 4, ground := Ground.data }], guard := none }) (v := ?vgrowr6) rfl (by kernel_rfl) (by kernel_rfl) (by kernel_rfl) (fun _ _ _ h => h) (Or.inl ⟨by rfl, ?ygrowr6⟩) hk ?rgrowr6
      case ygrowr6 => (intro w hSw; (try dsimp only at hSw); go_simp; first | done | with_reducible rfl)
      simp only [Act.put, List.setIfInBounds_toArray, List.set_cons_zero, List.set_cons_succ]
      refine wpAnyH_take (i := 6) (oi := { dst := some 45, op := Op.move (Operand.tmp 3), type := 3, pos := "merkle.go:126", after := #[], guard := none }) (v := ?vgrowr7) rfl (by kernel_rfl) (by kernel_rfl) (by kernel_rfl) (fun _ _ _ h => h) (Or.inl ⟨by rfl, ?ygrowr7⟩) hk ?rgrowr7
      case ygrowr7 => (intro w hSw; (try dsimp only at hSw); go_simp; first | done | with_reducible rfl)
      simp only [Act.put, List.setIfInBounds_toArray, List.set_cons_zero, List.set_cons_succ]
      refine wpAnyH_take (i := 8) (oi := { dst := some 47, op := Op.move (Operand.tmp 0), type := 60, pos := "merkle.go:126", after := #[], guard := none }) (v := ?vgrowr8) rfl (by kernel_rfl) (by kernel_rfl) (by kernel_rfl) (fun _ _ _ h => h) (Or.inl ⟨by rfl, ?ygrowr8⟩) hk ?rgrowr8
      case ygrowr8 => (intro w hSw; (try dsimp only at hSw); go_simp; first | done | with_reducible rfl)
      simp only [Act.put, List.setIfInBounds_toArray, List.set_cons_zero, List.set_cons_succ]
      refine wpAnyH_take (i := 9) (oi := { dst := some 48, op := Op.move (Operand.tmp 9), type := 3, pos := "merkle.go:126", after := #[], guard := none }) (v := ?vgrowr9) rfl (by kernel_rfl) (by kernel_rfl) (by kernel_rfl) (fun _ _ _ h => h) (Or.inl ⟨by rfl, ?ygrowr9⟩) hk ?rgrowr9
      case ygrowr9 => (intro w hSw; (try dsimp only at hSw); go_simp; first | done | with_reducible rfl)
      simp only [Act.put, List.setIfInBounds_toArray, List.set_cons_zero, List.set_cons_succ]
      refine wpAnyH_take (i := 10) (oi := { dst := some 49, op := Op.slice 60 (Operand.tmp 47) none (some (Operand.tmp 48)) none, type := 60, pos := "merkle.go:126", after := #[{ on := 8, ground := Ground.data }, { on := 9, ground := Ground.data }], guard := none }) (v := ?vgrowr10) rfl (by kernel_rfl) (by kernel_rfl) (by kernel_rfl) (fun _ _ _ h => h) (Or.inl ⟨by rfl, ?ygrowr10⟩) hk ?rgrowr10
      case ygrowr10 => (intro w hSw; (try dsimp only at hSw); go_simp; first | done | with_reducible rfl)
      simp only [Act.put, List.setIfInBounds_toArray, List.set_cons_zero, List.set_cons_succ]
      refine wpAnyH_take (i := 11) (oi := { dst := some 50, op := Op.move (Operand.tmp 3), type := 3, pos := "merkle.go:126", after := #[], guard := none }) (v := ?vgrowr11) rfl (by kernel_rfl) (by kernel_rfl) (by kernel_rfl) (fun _ _ _ h => h) (Or.inl ⟨by rfl, ?ygrowr11⟩) hk ?rgrowr11
      case ygrowr11 => (intro w hSw; (try dsimp only at hSw); go_simp; first | done | with_reducible rfl)
      simp only [Act.put, List.setIfInBounds_toArray, List.set_cons_zero, List.set_cons_succ]
      refine wpAnyH_ready (rs := [7]) (by decide +kernel) (by simp) ?_
      refine AllReadyH.cons (o := { dst := some 46, op := Op.call { callee := Callee.value (Operand.func 83), args := #[Operand.tmp 41, Operand.tmp 44, Operand.const (Value.bool false), Operand.tmp 45], argTypes := #[60, 3, 4, 3] }, type := 60, pos := "merkle.go:126", after := #[{ on := 2, ground := Ground.data }, { on := 5, ground := Ground.data }, { on := 6, ground := Ground.data }], guard := none }) rfl (fun K hK => ?_) AllReadyH.nil
      go_simp
      refine (HI2.out _ hk).mono ?_
      rintro e1 w7 ⟨v7, rfl, hown0, hb1⟩
      have hown := owns_base hown0 hk.size
      replace hk := hk.trans (hb1.mono hk.size)
      clear hb1 hown0
      refine hK.out _ _ hk (fun _ => ?_)
      clear hK K
      try simp only [Act.put, List.setIfInBounds_toArray, List.set_cons_zero, List.set_cons_succ]
      refine wpAnyH_ready (rs := [12]) (by decide +kernel) (by simp) ?_
      refine AllReadyH.cons (o := { dst := some 51, op := Op.call { callee := Callee.value (Operand.func 80), args := #[Operand.tmp 49, Operand.tmp 50], argTypes := #[60, 3] }, type := 30, pos := "merkle.go:126", after := #[{ on := 10, ground := Ground.data }, { on := 11, ground := Ground.data }, { on := 7, ground := Ground.chain }], guard := none }) rfl (fun K hK => ?_) AllReadyH.nil
      go_simp
      refine (HR2.out _ hk).mono ?_
      rintro e1 w12 ⟨rfl, hb1⟩
      replace hown := owns_below hown hb1
      replace hk := hk.trans (hb1.mono hk.size)
      clear hb1
      refine hK.out _ _ hk (fun _ => ?_)
      clear hK K
      try simp only [Act.put, List.setIfInBounds_toArray, List.set_cons_zero, List.set_cons_succ]
      refine wpAnyH_ready (rs := [13]) (by decide +kernel) (by simp) ?_
      refine AllReadyH.cons (o := { dst := some 52, op := Op.buildSlice 60 1 #[(0, Operand.tmp 51)], type := 60, pos := "merkle.go:126", after := #[{ on := 12, ground := Ground.data }], guard := none }) rfl (fun K hK => ?_) AllReadyH.nil
      rw [if_pos (by rfl)]
      refine wp_build_one (.tmp 51) rfl R hR.1 rfl ?_
      have hone := one_new w12 R hR
      replace hown := owns_new hown rfl (.cells (bv R).toArray 30)
      replace hk := hk.alloc hk.size (.cells (bv R).toArray 30)
      simp only [Act.put, List.setIfInBounds_toArray, List.set_cons_zero, List.set_cons_succ]
      refine hK.out _ _ hk (fun _ => ?_)
      clear hK K
      try simp only [Act.put, List.setIfInBounds_toArray, List.set_cons_zero, List.set_cons_succ]
      refine wpAnyH_ready (rs := [14]) (by decide +kernel) (by simp) ?_
      refine AllReadyH.cons (o := { dst := some 53, op := Op.call { callee := Callee.builtin Builtin.append, args := #[Operand.tmp 46, Operand.tmp 52], argTypes := #[60, 60] }, type := 60, pos := "merkle.go:126", after := #[{ on := 7, ground := Ground.data }, { on := 13, ground := Ground.data }, { on := 12, ground := Ground.chain }], guard := none }) rfl (fun K hK => ?_) AllReadyH.nil
      refine step_append_dgs rfl (.tmp 46) (.tmp 52) rfl w.heap.size PL.length _ PL rfl hown _ 1 1 [R] rfl hone (by omega) hk.size ?_
      intro vE wE hown2 hb1 _
      replace hk := hk.trans hb1
      clear hb1 hown hone
      refine hK.out _ _ hk (fun _ => ?_)
      clear hK K
      try simp only [Act.put, List.setIfInBounds_toArray, List.set_cons_zero, List.set_cons_succ]
      refine wpAnyH_take (i := 15) (oi := { dst := some 8, op := Op.assign (Operand.tmp 53), type := 60, pos := "merkle.go:126", after := #[{ on := 14, ground := Ground.data }, { on := 14, ground := Ground.chain }, { on := 0, ground := Ground.phase }, { on := 1, ground := Ground.phase }, { on := 2, ground := Ground.phase }, { on := 3, ground := Ground.phase }, { on := 4, ground := Ground.phase }, { on := 5, ground := Ground.phase }, { on := 6, ground := Ground.phase }, { on := 7, ground := Ground.phase }, { on := 8, ground := Ground.phase }, { on := 9, ground := Ground.phase }, { on := 10, ground := Ground.phase }, { on := 11, ground := Ground.phase }, { on := 12, ground := Ground.phase }, { on := 13, ground := Ground.phase }, { on := 14, ground := Ground.phase }], guard := none }) (v := ?vgrowr13) rfl (by kernel_rfl) (by kernel_rfl) (by kernel_rfl) (fun _ _ _ h => h) (Or.inl ⟨by rfl, ?ygrowr13⟩) hk ?rgrowr13
      case ygrowr13 => (intro w hSw; (try dsimp only at hSw); go_simp; first | done | with_reducible rfl)
      simp only [Act.put, List.setIfInBounds_toArray, List.set_cons_zero, List.set_cons_succ]
      refine wpAnyH_done (by decide +kernel) ?_ _
      clear hc1 hc2 HI2 HR2
      go_wp2
      go_ret
      exact ⟨_, rfl, by rw [HE.out, List.length_append]; exact hown2, hk⟩

set_option maxRecDepth 100000 in
theorem growth_any (a : Option Addr) (len cap : Nat) (L : List (List Int)) (m x : Int) (w : World) (hL : Dgs w a len cap L) (htab : Tab w) (hbd : len ≤ 1000000) :
    Calls Tryd.prog 57 #[.slice a len cap, .int .i64 m, .int .i64 x] w fun e w' => ∃ v, e = .returned (.tuple #[v, .int .i64 (gE len m)]) ∧ w'.ownsRow w.heap.size 30 32 v (gV L m x).length (bv (gV L m x).flatten) ∧ Below w.heap.size w w' := by
  have hlen := hL.len_eq
  by_cases hin : 1 ≤ m ∧ m ≤ (len : Int)
  · have HV : Bx (gV L m x = growL L m.toNat true x) := ⟨by unfold gV; rw [hlen, if_pos hin]⟩
    have HE : Bx (gE len m = 0) := ⟨if_pos hin⟩
    rw [HE.out, HV.out]
    obtain ⟨j, rfl⟩ : ∃ j : Nat, m = (j : Int) := ⟨m.toNat, by omega⟩
    have h1 : decide ((j : Int) < 1) = false := by simp; omega
    have h2 : decide (len < j) = false := by simp; omega
    have h3 : decide ((len : Int) < (j : Int)) = false := by simp; omega
    have HP : Bx (Calls Tryd.prog 83 #[.slice a len cap, .int .i64 j, .bool true, .int .i64 x] w fun e w' => ∃ v, e = .returned v ∧ w'.ownsRow w.heap.size 30 32 v (growL L j true x).length (bv (growL L j true x).flatten) ∧ Below w.heap.size w w') := ⟨growin_any len a len cap L j true x w (Nat.le_refl _) hL htab hbd (by omega) (by omega)⟩
    have ht : ((j : Int)).toNat = j := by omega
    rw [ht]
    have hj1 : ¬ (j : Int) < 1 := by omega
    clear hL htab hlen HV HE ht
    go_enter Tryd.func57, Tryd.ntmps57
    go_wp2_with fail
    refine HP.out.mono ?_
    rintro e w1 ⟨v, rfl, ho, hb⟩
    clear HP
    go_wp2
    go_ret2
    exact ⟨v, rfl, ho, hb⟩
  · have HV : Bx (gV L m x = []) := ⟨by unfold gV; rw [hlen, if_neg hin]⟩
    have HE : Bx (gE len m = 2) := ⟨if_neg hin⟩
    rw [HE.out, HV.out]
    have hon := World.ownsRow_nil w w.heap.size 30 32
    by_cases h0 : m < 1
    · have h1 : decide (m < 1) = true := by simpa using h0
      clear hL htab hlen HV HE hin
      go_enter Tryd.func57, Tryd.ntmps57
      go_wp2
      go_ret2
      exact ⟨_, rfl, hon, Below.refl _ _⟩
    · have h1 : decide (m < 1) = false := by simpa using h0
      have h2 : decide (m > (len : Int)) = true := by simp; omega
      clear hL htab hlen HV HE hin
      go_enter Tryd.func57, Tryd.ntmps57
      go_wp2
      go_ret2
      exact ⟨_, rfl, hon, Below.refl _ _⟩
end Go.Proofs.YtbednfacipphhaaDoor
