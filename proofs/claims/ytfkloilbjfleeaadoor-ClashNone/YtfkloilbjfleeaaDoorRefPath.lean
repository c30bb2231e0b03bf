/- What the document's own Path answers. -/
import Derived.Test.YtfkloilbjfleeaaDoorSmf
import Derived.Test.YtfkloilbjfleeaaDoorRefRoot
namespace Go.Proofs.YtfkloilbjfleeaaDoor
open Go.RowKit
set_option linter.unusedVariables false

set_option maxRecDepth 100000 in
set_option maxHeartbeats 1000000 in
theorem refpathin_any (n : Nat) : ∀ (a : Option Addr) (len cap : Nat) (L : List (List Int)) (i : Nat) (x : Int) (w : World), len ≤ n → Dgs w a len cap L → Tab w → len ≤ 1000000 → i < len →
    Calls Tryd.prog 25 #[.slice a len cap, .int .i64 i, .int .i64 x] w fun e w' => ∃ v, e = .returned (.tuple #[v, .int .i64 0]) ∧ w'.ownsRow w.heap.size 42 32 v (pathL L i x).length (bv (pathL L i x).flatten) ∧ Below w.heap.size w w' := by
  induction n using Nat.strongRecOn with
  | ind n ih =>
  intro a len cap L i x w hn hL htab hbd hi
  have hlen := hL.len_eq
  have g1 : decide ((i : Int) < 0) = false := by simp
  have g2 : decide (len ≤ i) = false := by simp; omega
  by_cases h1 : len = 1
  · have e1 : ((len : Int) == 1) = true := by simp; omega
    have HE : Bx (pathL L i x = []) := ⟨pathL_one L i x (by omega)⟩
    clear ih hL hlen h1
    go_enter Tryd.func25, Tryd.ntmps25
    go_wp2
    go_ret2
    exact ⟨_, rfl, by rw [HE.out]; exact World.ownsRow_nil _ _ _ _, Below.refl _ _⟩
  · have e1 : ((len : Int) == 1) = false := by simp; omega
    obtain ⟨b, off, rfl, hlt, hcc⟩ := hL.spot (by omega)
    have hk1 := splitN_pos (n := len) (by omega)
    have hk2 := splitN_lt (n := len) (by omega)
    have hcap := hL.le_cap
    have HSP : Bx (∀ W, Calls Tryd.prog 48 #[.int .i64 (len : Int)] W fun e w' => e = .returned (.int .i64 (splitN len : Int)) ∧ W = w') := ⟨fun W => refsplit_any (len : Int) W (by omega)⟩
    have hc1 := dgs_cut b off len cap (splitN len) (by omega)
    have hc2 := dgs_rest b off len cap (splitN len) (by omega) (by omega)
    by_cases hik : i < splitN len
    · have HE : Bx (pathL L i x = pathL (L.take (splitN len)) i x ++ [rootL (L.drop (splitN len)) x]) := ⟨by rw [pathL_left L i x (by omega) (by rw [hlen]; exact hik), hlen]⟩
      have HI1 : Bx (∀ W, Below w.heap.size w W → Calls Tryd.prog 25 #[.slice (some ⟨b, off, none⟩) (splitN len) cap, .int .i64 i, .int .i64 x] W fun e w' => ∃ v, e = .returned (.tuple #[v, .int .i64 0]) ∧ w'.ownsRow W.heap.size 42 32 v (pathL (L.take (splitN len)) i x).length (bv (pathL (L.take (splitN len)) i x).flatten) ∧ Below W.heap.size W w') :=
        ⟨fun W hW => ih (splitN len) (by omega) _ _ _ _ i x W (Nat.le_refl _) ((hL.below hW).take _ (by omega)) (htab.below hW) (by omega) hik⟩
      have HR1 : Bx (∀ W, Below w.heap.size w W → Calls Tryd.prog 27 #[.slice (some ⟨b, off + 32 * splitN len, none⟩) (len - splitN len) (cap - splitN len), .int .i64 x] W fun e w' => e = .returned (.agg (bv (rootL (L.drop (splitN len)) x)).toArray) ∧ Below W.heap.size W w') :=
        ⟨fun W hW => refroot_any (len - splitN len) _ _ _ _ x W (Nat.le_refl _) ((hL.below hW).drop _ (by omega)) (htab.below hW) (by omega)⟩
      have hR := rootL_dg (L.drop (splitN len)) x (hL.dig.drop _)
      have hpl := pathL_len (splitN len) (L.take (splitN len)) i x (by rw [List.length_take]; omega)
      have hki : (i : Int) < (splitN len : Int) := by omega
      generalize rootL (L.drop (splitN len)) x = R at HE HR1 hR
      generalize pathL (L.take (splitN len)) i x = PL at HE HI1 hpl
      generalize splitN len = k at hk1 hk2 HSP HI1 HR1 hc1 hc2 hpl hki
      clear hcc hL htab ih hlen hik
      go_enter Tryd.func25, Tryd.ntmps25
      go_wp2_with fail
      refine (HSP.out _).mono ?_
      rintro e w' ⟨rfl, rfl⟩
      generalize hm : off + 32 * k = o2 at hc2 HR1
      generalize hm2 : len - k = l2 at hc2 HR1
      generalize hm3 : cap - k = c2 at hc2 HR1
      clear hm hm2 hm3 HSP
      go_wp2_with fail
      refine (HI1.out _ (Below.refl _ _)).mono ?_
      rintro e w5 ⟨v5, rfl, hown, hk⟩
      clear HI1
      go_wp2_with fail
      refine (HR1.out _ hk).mono ?_
      rintro e w6 ⟨rfl, hb6⟩
      replace hown := owns_below hown hb6
      replace hk := hk.trans (hb6.mono hk.size)
      have hone := one_new w6 R hR
      replace hown := owns_new hown rfl (.cells (bv R).toArray 42)
      replace hk := hk.alloc hk.size (.cells (bv R).toArray 42)
      clear hb6 HR1
      go_wp2_with (first
        | (refine wpList_build_one rfl (.tmp 44) rfl R hR.1 rfl ?_; generalize w6.alloc (.cells (bv R).toArray 42) = w7 at hone hown hk ⊢)
        | (at_builtin; refine wpList_append_dgs rfl (.tmp 39) (.tmp 45) rfl w.heap.size PL.length _ PL rfl hown _ 1 1 [R] rfl hone (by omega) hk.size ?_; intro v8 w8 hown2 hb8 _; replace hk := hk.trans hb8; clear hb8 hown hone))
      go_ret2
      exact ⟨_, rfl, by rw [HE.out, List.length_append]; exact hown2, hk⟩
    · have HE : Bx (pathL L i x = pathL (L.drop (splitN len)) (i - splitN len) x ++ [rootL (L.take (splitN len)) x]) := ⟨by rw [pathL_right L i x (by omega) (by rw [hlen]; exact hik), hlen]⟩
      have HI2 : Bx (∀ W, Below w.heap.size w W → Calls Tryd.prog 25 #[.slice (some ⟨b, off + 32 * splitN len, none⟩) (len - splitN len) (cap - splitN len), .int .i64 ((i : Int) - (splitN len : Int)), .int .i64 x] W fun e w' => ∃ v, e = .returned (.tuple #[v, .int .i64 0]) ∧ w'.ownsRow W.heap.size 42 32 v (pathL (L.drop (splitN len)) (i - splitN len) x).length (bv (pathL (L.drop (splitN len)) (i - splitN len) x).flatten) ∧ Below W.heap.size W w') :=
        ⟨fun W hW => by
          have h := ih (len - splitN len) (by omega) _ _ _ _ (i - splitN len) x W (Nat.le_refl _) ((hL.below hW).drop (splitN len) (by omega)) (htab.below hW) (by omega) (by omega)
          rw [show ((i - splitN len : Nat) : Int) = (i : Int) - (splitN len : Int) from by omega] at h
          exact h⟩
      have HR2 : Bx (∀ W, Below w.heap.size w W → Calls Tryd.prog 27 #[.slice (some ⟨b, off, none⟩) (splitN len) cap, .int .i64 x] W fun e w' => e = .returned (.agg (bv (rootL (L.take (splitN len)) x)).toArray) ∧ Below W.heap.size W w') :=
        ⟨fun W hW => refroot_any (splitN len) _ _ _ _ x W (Nat.le_refl _) ((hL.below hW).take _ (by omega)) (htab.below hW) (by omega)⟩
      have hR := rootL_dg (L.take (splitN len)) x (hL.dig.take _)
      have hpl := pathL_len (len - splitN len) (L.drop (splitN len)) (i - splitN len) x (by rw [List.length_drop]; omega)
      have hki : ¬ (i : Int) < (splitN len : Int) := by omega
      have hsb : IntKind.i64.wrap ((i : Int) - (splitN len : Int)) = (i : Int) - (splitN len : Int) := IntWalk.i64_in _ (by omega)
      generalize rootL (L.take (splitN len)) x = R at HE HR2 hR
      generalize pathL (L.drop (splitN len)) (i - splitN len) x = PL at HE HI2 hpl
      generalize splitN len = k at hk1 hk2 HSP HI2 HR2 hc1 hc2 hpl hki hsb
      clear hcc hL htab ih hlen hik
      go_enter Tryd.func25, Tryd.ntmps25
      go_wp2_with fail
      refine (HSP.out _).mono ?_
      rintro e w' ⟨rfl, rfl⟩
      generalize hm : off + 32 * k = o2 at hc2 HI2
      generalize hm2 : len - k = l2 at hc2 HI2 hpl
      generalize hm3 : cap - k = c2 at hc2 HI2
      have hl2 : l2 ≤ 1000000 := by omega
      clear hm hm2 hm3 HSP
      go_wp2_with fail
      refine (HI2.out _ (Below.refl _ _)).mono ?_
      rintro e w5 ⟨v5, rfl, hown, hk⟩
      clear HI2
      go_wp2_with fail
      refine (HR2.out _ hk).mono ?_
      rintro e w6 ⟨rfl, hb6⟩
      replace hown := owns_below hown hb6
      replace hk := hk.trans (hb6.mono hk.size)
      have hone := one_new w6 R hR
      replace hown := owns_new hown rfl (.cells (bv R).toArray 42)
      replace hk := hk.alloc hk.size (.cells (bv R).toArray 42)
      clear hb6 HR2
      go_wp2_with (first
        | (refine wpList_build_one rfl (.tmp 63) rfl R hR.1 rfl ?_; generalize w6.alloc (.cells (bv R).toArray 42) = w7 at hone hown hk ⊢)
        | (at_builtin; refine wpList_append_dgs rfl (.tmp 58) (.tmp 64) rfl w.heap.size PL.length _ PL rfl hown _ 1 1 [R] rfl hone (by omega) hk.size ?_; intro v8 w8 hown2 hb8 _; replace hk := hk.trans hb8; clear hb8 hown hone))
      go_ret2
      exact ⟨_, rfl, by rw [HE.out, List.length_append]; exact hown2, hk⟩

set_option maxRecDepth 100000 in
theorem refpath_any (a : Option Addr) (len cap : Nat) (L : List (List Int)) (i x : Int) (w : World) (hL : Dgs w a len cap L) (htab : Tab w) (hbd : len ≤ 1000000) :
    Calls Tryd.prog 25 #[.slice a len cap, .int .i64 i, .int .i64 x] w fun e w' => ∃ v, e = .returned (.tuple #[v, .int .i64 (pE len i)]) ∧ w'.ownsRow w.heap.size 42 32 v (pV L i x).length (bv (pV L i x).flatten) ∧ Below w.heap.size w w' := by
  have hlen := hL.len_eq
  by_cases hin : 0 ≤ i ∧ i < (len : Int)
  · have HV : Bx (pV L i x = pathL L i.toNat x) := ⟨by unfold pV; rw [hlen, if_pos hin]⟩
    have HE : Bx (pE len i = 0) := ⟨if_pos hin⟩
    rw [HE.out, HV.out]
    obtain ⟨j, rfl⟩ : ∃ j : Nat, i = (j : Int) := ⟨i.toNat, by omega⟩
    have ht : ((j : Int)).toNat = j := by omega
    rw [ht]
    exact refpathin_any len a len cap L j x w (Nat.le_refl _) hL htab hbd (by omega)
  · have HV : Bx (pV L i x = []) := ⟨by unfold pV; rw [hlen, if_neg hin]⟩
    have HE : Bx (pE len i = 2) := ⟨if_neg hin⟩
    rw [HE.out, HV.out]
    have hon := World.ownsRow_nil w w.heap.size 42 32
    by_cases h0 : i < 0
    · have h1 : decide (i < 0) = true := by simpa using h0
      clear hL htab hlen HV HE hin
      go_enter Tryd.func25, Tryd.ntmps25
      go_wp2
      go_ret2
      exact ⟨_, rfl, hon, Below.refl _ _⟩
    · have h1 : decide (i < 0) = false := by simpa using h0
      have h2 : decide (i ≥ (len : Int)) = true := by simp; omega
      clear hL htab hlen HV HE hin
      go_enter Tryd.func25, Tryd.ntmps25
      go_wp2
      go_ret2
      exact ⟨_, rfl, hon, Below.refl _ _⟩
end Go.Proofs.YtfkloilbjfleeaaDoor
