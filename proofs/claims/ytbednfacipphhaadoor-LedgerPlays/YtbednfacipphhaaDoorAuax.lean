/- What the document's own Path answers. What the document's own Growth answers. -/
import Derived.Test.YtbednfacipphhaaDoorAuao
import Derived.Test.YtbednfacipphhaaDoorRefRoot
namespace Go.Proofs.YtbednfacipphhaaDoor
open Go.RowKit
set_option linter.unusedVariables false

set_option maxRecDepth 100000 in
set_option maxHeartbeats 1000000 in
theorem refpathin_any (n : Nat) : ∀ (a : Option Addr) (len cap : Nat) (L : List (List Int)) (i : Nat) (x : Int) (w : World), len ≤ n → Dgs w a len cap L → Tab w → len ≤ 1000000 → i < len →
    Calls Tryd.prog 71 #[.slice a len cap, .int .i64 i, .int .i64 x] w fun e w' => ∃ v, e = .returned (.tuple #[v, .int .i64 0]) ∧ w'.ownsRow w.heap.size 30 32 v (pathL L i x).length (bv (pathL L i x).flatten) ∧ Below w.heap.size w w' := by
  induction n using Nat.strongRecOn with
  | ind n ih =>
  intro a len cap L i x w hn hL htab hbd hi
  have hlen := hL.len_eq
  have g1 : decide ((i : Int) < 0) = false := by simp
  have g2 : decide (len ≤ i) = false := by simp; omega
  by_cases h1 : len = 1
  · have e1 : ((len : Int) == 1) = true := by simp; omega
    have HE : Bx (pathL L i x = []) := ⟨pathL_one L i x (by omega)⟩
    clear ih hL hlen h1
    go_enter Tryd.func71, Tryd.ntmps71
    go_wp2
    go_ret2
    exact ⟨_, rfl, by rw [HE.out]; exact World.ownsRow_nil _ _ _ _, Below.refl _ _⟩
  · have e1 : ((len : Int) == 1) = false := by simp; omega
    obtain ⟨b, off, rfl, hlt, hcc⟩ := hL.spot (by omega)
    have hk1 := splitN_pos (n := len) (by omega)
    have hk2 := splitN_lt (n := len) (by omega)
    have hcap := hL.le_cap
    have HSP : Bx (∀ W, Calls Tryd.prog 97 #[.int .i64 (len : Int)] W fun e w' => e = .returned (.int .i64 (splitN len : Int)) ∧ W = w') := ⟨fun W => refsplit_any (len : Int) W (by omega)⟩
    have hc1 := dgs_cut b off len cap (splitN len) (by omega)
    have hc2 := dgs_rest b off len cap (splitN len) (by omega) (by omega)
    by_cases hik : i < splitN len
    · have HE : Bx (pathL L i x = pathL (L.take (splitN len)) i x ++ [rootL (L.drop (splitN len)) x]) := ⟨by rw [pathL_left L i x (by omega) (by rw [hlen]; exact hik), hlen]⟩
      have HI1 : Bx (∀ W, Below w.heap.size w W → Calls Tryd.prog 71 #[.slice (some ⟨b, off, none⟩) (splitN len) cap, .int .i64 i, .int .i64 x] W fun e w' => ∃ v, e = .returned (.tuple #[v, .int .i64 0]) ∧ w'.ownsRow W.heap.size 30 32 v (pathL (L.take (splitN len)) i x).length (bv (pathL (L.take (splitN len)) i x).flatten) ∧ Below W.heap.size W w') :=
        ⟨fun W hW => ih (splitN len) (by omega) _ _ _ _ i x W (Nat.le_refl _) ((hL.below hW).take _ (by omega)) (htab.below hW) (by omega) hik⟩
      have HR1 : Bx (∀ W, Below w.heap.size w W → Calls Tryd.prog 74 #[.slice (some ⟨b, off + 32 * splitN len, none⟩) (len - splitN len) (cap - splitN len), .int .i64 x] W fun e w' => e = .returned (.agg (bv (rootL (L.drop (splitN len)) x)).toArray) ∧ Below W.heap.size W w') :=
        ⟨fun W hW => refroot_any (len - splitN len) _ _ _ _ x W (Nat.le_refl _) ((hL.below hW).drop _ (by omega)) (htab.below hW) (by omega)⟩
      have hR := rootL_dg (L.drop (splitN len)) x (hL.dig.drop _)
      have hpl := pathL_len (splitN len) (L.take (splitN len)) i x (by rw [List.length_take]; omega)
      have hki : (i : Int) < (splitN len : Int) := by omega
      generalize rootL (L.drop (splitN len)) x = R at HE HR1 hR
      generalize pathL (L.take (splitN len)) i x = PL at HE HI1 hpl
      generalize splitN len = k at hk1 hk2 HSP HI1 HR1 hc1 hc2 hpl hki
      clear hcc hL htab ih hlen hik
      go_enter Tryd.func71, Tryd.ntmps71
      go_wp2_with fail
      refine (HSP.out _).mono ?_
      rintro e w' ⟨rfl, rfl⟩
      generalize hm : off + 32 * k = o2 at hc2 HR1
      generalize hm2 : len - k = l2 at hc2 HR1
      generalize hm3 : cap - k = c2 at hc2 HR1
      clear hm hm2 hm3 HSP
      go_wp2_with fail
      refine (HI1.out _ (Below.refl _ _)).mono ?_
      rintro e w5 ⟨v5, rfl, hown, hk⟩
      clear HI1
      go_wp2_with fail
      refine (HR1.out _ hk).mono ?_
      rintro e w6 ⟨rfl, hb6⟩
      replace hown := owns_below hown hb6
      replace hk := hk.trans (hb6.mono hk.size)
      have hone := one_new w6 R hR
      replace hown := owns_new hown rfl (.cells (bv R).toArray 30)
      replace hk := hk.alloc hk.size (.cells (bv R).toArray 30)
      clear hb6 HR1
      go_wp2_with (first
        | (refine wpList_build_one rfl (.tmp 44) rfl R hR.1 rfl ?_; generalize w6.alloc (.cells (bv R).toArray 30) = w7 at hone hown hk ⊢)
        | (at_builtin; refine wpList_append_dgs rfl (.tmp 39) (.tmp 45) rfl w.heap.size PL.length _ PL rfl hown _ 1 1 [R] rfl hone (by omega) hk.size ?_; intro v8 w8 hown2 hb8 _; replace hk := hk.trans hb8; clear hb8 hown hone))
      go_ret2
      exact ⟨_, rfl, by rw [HE.out, List.length_append]; exact hown2, hk⟩
    · have HE : Bx (pathL L i x = pathL (L.drop (splitN len)) (i - splitN len) x ++ [rootL (L.take (splitN len)) x]) := ⟨by rw [pathL_right L i x (by omega) (by rw [hlen]; exact hik), hlen]⟩
      have HI2 : Bx (∀ W, Below w.heap.size w W → Calls Tryd.prog 71 #[.slice (some ⟨b, off + 32 * splitN len, none⟩) (len - splitN len) (cap - splitN len), .int .i64 ((i : Int) - (splitN len : Int)), .int .i64 x] W fun e w' => ∃ v, e = .returned (.tuple #[v, .int .i64 0]) ∧ w'.ownsRow W.heap.size 30 32 v (pathL (L.drop (splitN len)) (i - splitN len) x).length (bv (pathL (L.drop (splitN len)) (i - splitN len) x).flatten) ∧ Below W.heap.size W w') :=
        ⟨fun W hW => by
          have h := ih (len - splitN len) (by omega) _ _ _ _ (i - splitN len) x W (Nat.le_refl _) ((hL.below hW).drop (splitN len) (by omega)) (htab.below hW) (by omega) (by omega)
          rw [show ((i - splitN len : Nat) : Int) = (i : Int) - (splitN len : Int) from by omega] at h
          exact h⟩
      have HR2 : Bx (∀ W, Below w.heap.size w W → Calls Tryd.prog 74 #[.slice (some ⟨b, off, none⟩) (splitN len) cap, .int .i64 x] W fun e w' => e = .returned (.agg (bv (rootL (L.take (splitN len)) x)).toArray) ∧ Below W.heap.size W w') :=
        ⟨fun W hW => refroot_any (splitN len) _ _ _ _ x W (Nat.le_refl _) ((hL.below hW).take _ (by omega)) (htab.below hW) (by omega)⟩
      have hR := rootL_dg (L.take (splitN len)) x (hL.dig.take _)
      have hpl := pathL_len (len - splitN len) (L.drop (splitN len)) (i - splitN len) x (by rw [List.length_drop]; omega)
      have hki : ¬ (i : Int) < (splitN len : Int) := by omega
      have hsb : IntKind.i64.wrap ((i : Int) - (splitN len : Int)) = (i : Int) - (splitN len : Int) := IntWalk.i64_in _ (by omega)
      generalize rootL (L.take (splitN len)) x = R at HE HR2 hR
      generalize pathL (L.drop (splitN len)) (i - splitN len) x = PL at HE HI2 hpl
      generalize splitN len = k at hk1 hk2 HSP HI2 HR2 hc1 hc2 hpl hki hsb
      clear hcc hL htab ih hlen hik
      go_enter Tryd.func71, Tryd.ntmps71
      go_wp2_with fail
      refine (HSP.out _).mono ?_
      rintro e w' ⟨rfl, rfl⟩
      generalize hm : off + 32 * k = o2 at hc2 HI2
      generalize hm2 : len - k = l2 at hc2 HI2 hpl
      generalize hm3 : cap - k = c2 at hc2 HI2
      have hl2 : l2 ≤ 1000000 := by omega
      clear hm hm2 hm3 HSP
      go_wp2_with fail
      refine (HI2.out _ (Below.refl _ _)).mono ?_
      rintro e w5 ⟨v5, rfl, hown, hk⟩
      clear HI2
      go_wp2_with fail
      refine (HR2.out _ hk).mono ?_
      rintro e w6 ⟨rfl, hb6⟩
      replace hown := owns_below hown hb6
      replace hk := hk.trans (hb6.mono hk.size)
      have hone := one_new w6 R hR
      replace hown := owns_new hown rfl (.cells (bv R).toArray 30)
      replace hk := hk.alloc hk.size (.cells (bv R).toArray 30)
      clear hb6 HR2
      go_wp2_with (first
        | (refine wpList_build_one rfl (.tmp 63) rfl R hR.1 rfl ?_; generalize w6.alloc (.cells (bv R).toArray 30) = w7 at hone hown hk ⊢)
        | (at_builtin; refine wpList_append_dgs rfl (.tmp 58) (.tmp 64) rfl w.heap.size PL.length _ PL rfl hown _ 1 1 [R] rfl hone (by omega) hk.size ?_; intro v8 w8 hown2 hb8 _; replace hk := hk.trans hb8; clear hb8 hown hone))
      go_ret2
      exact ⟨_, rfl, by rw [HE.out, List.length_append]; exact hown2, hk⟩

set_option maxRecDepth 100000 in
theorem refpath_any (a : Option Addr) (len cap : Nat) (L : List (List Int)) (i x : Int) (w : World) (hL : Dgs w a len cap L) (htab : Tab w) (hbd : len ≤ 1000000) :
    Calls Tryd.prog 71 #[.slice a len cap, .int .i64 i, .int .i64 x] w fun e w' => ∃ v, e = .returned (.tuple #[v, .int .i64 (pE len i)]) ∧ w'.ownsRow w.heap.size 30 32 v (pV L i x).length (bv (pV L i x).flatten) ∧ Below w.heap.size w w' := by
  have hlen := hL.len_eq
  by_cases hin : 0 ≤ i ∧ i < (len : Int)
  · have HV : Bx (pV L i x = pathL L i.toNat x) := ⟨by unfold pV; rw [hlen, if_pos hin]⟩
    have HE : Bx (pE len i = 0) := ⟨if_pos hin⟩
    rw [HE.out, HV.out]
    obtain ⟨j, rfl⟩ : ∃ j : Nat, i = (j : Int) := ⟨i.toNat, by omega⟩
    have ht : ((j : Int)).toNat = j := by omega
    rw [ht]
    exact refpathin_any len a len cap L j x w (Nat.le_refl _) hL htab hbd (by omega)
  · have HV : Bx (pV L i x = []) := ⟨by unfold pV; rw [hlen, if_neg hin]⟩
    have HE : Bx (pE len i = 2) := ⟨if_neg hin⟩
    rw [HE.out, HV.out]
    have hon := World.ownsRow_nil w w.heap.size 30 32
    by_cases h0 : i < 0
    · have h1 : decide (i < 0) = true := by simpa using h0
      clear hL htab hlen HV HE hin
      go_enter Tryd.func71, Tryd.ntmps71
      go_wp2
      go_ret2
      exact ⟨_, rfl, hon, Below.refl _ _⟩
    · have h1 : decide (i < 0) = false := by simpa using h0
      have h2 : decide (i ≥ (len : Int)) = true := by simp; omega
      clear hL htab hlen HV HE hin
      go_enter Tryd.func71, Tryd.ntmps71
      go_wp2
      go_ret2
      exact ⟨_, rfl, hon, Below.refl _ _⟩
end Go.Proofs.YtbednfacipphhaaDoor
namespace Go.Proofs.YtbednfacipphhaaDoor
open Go.RowKit
set_option linter.unusedVariables false

set_option maxRecDepth 100000 in
set_option maxHeartbeats 1000000 in
theorem refgrowin_any (n : Nat) : ∀ (a : Option Addr) (len cap : Nat) (L : List (List Int)) (m : Nat) (b : Bool) (x : Int) (w : World), len ≤ n → Dgs w a len cap L → Tab w → len ≤ 1000000 → 1 ≤ m → m ≤ len →
    Calls Tryd.prog 98 #[.slice a len cap, .int .i64 m, .int .i64 x, .bool b] w fun e w' => ∃ v, e = .returned v ∧ w'.ownsRow w.heap.size 30 32 v (growL (L) (m) b x).length (bv (growL (L) (m) b x).flatten) ∧ Below w.heap.size w w' := by
  induction n using Nat.strongRecOn with
  | ind n ih =>
  intro a len cap L m b x w hn hL htab hbd h1m hml
  have hlen := hL.len_eq
  by_cases hm : m = len
  · subst hm
    have q1 : ((m : Int) == (m : Int)) = true := by simp
    cases b with
    | true =>
      have HE : Bx (growL L m true x = []) := ⟨by rw [← hlen]; exact growL_all L x⟩
      clear ih hL
      go_enter Tryd.func98, Tryd.ntmps98
      go_wp2
      go_ret
      exact ⟨_, rfl, by rw [HE.out]; exact World.ownsRow_nil _ _ _ _, Below.refl _ _⟩
    | false =>
      have HE : Bx (growL L m false x = [rootL L x]) := ⟨by rw [← hlen]; exact growL_some L x⟩
      have HR : Bx (Calls Tryd.prog 74 #[.slice a m cap, .int .i64 x] w fun e w' => e = .returned (.agg (bv (rootL L x)).toArray) ∧ Below w.heap.size w w') := ⟨refroot_any m a m cap L x w (Nat.le_refl _) hL htab hbd⟩
      have hR := rootL_dg L x hL.dig
      generalize rootL L x = R at HE HR hR
      clear ih hL htab
      go_enter Tryd.func98, Tryd.ntmps98
      go_wp2_with fail
      refine HR.out.mono ?_
      rintro e w1 ⟨rfl, hb1⟩
      have hown : (w1.alloc (.cells (bv R).toArray 30)).ownsRow w.heap.size 30 32 (.slice (some ⟨w1.heap.size, 0, none⟩) 1 1) 1 (bv R) := World.ownsRow_lit w1 (bv R).toArray 1 hb1.size (by unfold maxLen; omega) (by rw [List.size_toArray, bv_length, hR.1])
      have hb2 := hb1.alloc hb1.size (.cells (bv R).toArray 30)
      clear HR hb1
      go_wp2_with (refine wpList_build_one rfl (.tmp 23) rfl R hR.1 rfl ?_; generalize w1.alloc (.cells (bv R).toArray 30) = w2 at hown hb2 ⊢)
      go_ret
      exact ⟨_, rfl, by rw [HE.out]; simpa using hown, hb2⟩
  · have q1 : ((m : Int) == (len : Int)) = false := by simp; omega
    obtain ⟨bk, off, rfl, hlt, hcc⟩ := hL.spot (by omega)
    have hk1 := splitN_pos (n := len) (by omega)
    have hk2 := splitN_lt (n := len) (by omega)
    have hcap := hL.le_cap
    have HSP : Bx (∀ W, Calls Tryd.prog 97 #[.int .i64 (len : Int)] W fun e w' => e = .returned (.int .i64 (splitN len : Int)) ∧ W = w') := ⟨fun W => refsplit_any (len : Int) W (by omega)⟩
    have hc1 := dgs_cut bk off len cap (splitN len) (by omega)
    have hc2 := dgs_rest bk off len cap (splitN len) (by omega) (by omega)
    by_cases hmk : m ≤ splitN len
    · have HE : Bx (growL L m b x = growL (L.take (splitN len)) m b x ++ [rootL (L.drop (splitN len)) x]) := ⟨by rw [growL_left L m b x h1m (by omega) (by rw [hlen]; exact hmk), hlen]⟩
      have HI1 : Bx (∀ W, Below w.heap.size w W → Calls Tryd.prog 98 #[.slice (some ⟨bk, off, none⟩) (splitN len) cap, .int .i64 m, .int .i64 x, .bool b] W fun e w' => ∃ v, e = .returned v ∧ w'.ownsRow W.heap.size 30 32 v (growL (L.take (splitN len)) (m) b x).length (bv (growL (L.take (splitN len)) (m) b x).flatten) ∧ Below W.heap.size W w') :=
        ⟨fun W hW => ih (splitN len) (by omega) _ _ _ _ m b x W (Nat.le_refl _) ((hL.below hW).take _ (by omega)) (htab.below hW) (by omega) h1m hmk⟩
      have HR1 : Bx (∀ W, Below w.heap.size w W → Calls Tryd.prog 74 #[.slice (some ⟨bk, off + 32 * splitN len, none⟩) (len - splitN len) (cap - splitN len), .int .i64 x] W fun e w' => e = .returned (.agg (bv (rootL (L.drop (splitN len)) x)).toArray) ∧ Below W.heap.size W w') :=
        ⟨fun W hW => refroot_any (len - splitN len) _ _ _ _ x W (Nat.le_refl _) ((hL.below hW).drop _ (by omega)) (htab.below hW) (by omega)⟩
      have hR := rootL_dg (L.drop (splitN len)) x (hL.dig.drop _)
      have hpl := growL_len (splitN len) (L.take (splitN len)) m b x (by rw [List.length_take]; omega) h1m (by rw [List.length_take]; omega)
      have hki : (m : Int) ≤ (splitN len : Int) := by omega
      generalize rootL (L.drop (splitN len)) x = R at HE HR1 hR
      generalize growL (L.take (splitN len)) m b x = PL at HE HI1 hpl
      generalize splitN len = k at hk1 hk2 HSP HI1 HR1 hc1 hc2 hpl hki
      clear hcc hL htab ih hlen hmk hm
      go_enter Tryd.func98, Tryd.ntmps98
      go_wp2_with fail
      refine (HSP.out _).mono ?_
      rintro e w' ⟨rfl, rfl⟩
      generalize hm : off + 32 * k = o2 at hc2 HR1
      generalize hm2 : len - k = l2 at hc2 HR1
      generalize hm3 : cap - k = c2 at hc2 HR1
      clear hm hm2 hm3 HSP
      go_wp2_with fail
      have hk : Below w.heap.size w w.drew := below_drewN (Below.refl _ _) 1
      refine wp_region_held_drew (S := fun W => Below w.heap.size w W) (by kernel_rfl) hk (fun _ => ?_)
      refine wpAnyH_take (i := 0) (oi := { dst := some 46, op := Op.move (Operand.tmp 0), type := 60, pos := "ref.go:131", after := #[], guard := none }) (v := ?vrgrowl1) rfl (by kernel_rfl) (by kernel_rfl) (by kernel_rfl) (fun _ _ _ h => h) (Or.inl ⟨by rfl, ?yrgrowl1⟩) hk ?rrgrowl1
      case yrgrowl1 => (intro w hSw; (try dsimp only at hSw); go_simp; first | done | with_reducible rfl)
      simp only [Act.put, List.setIfInBounds_toArray, List.set_cons_zero, List.set_cons_succ]
      refine wpAnyH_take (i := 1) (oi := { dst := some 47, op := Op.move (Operand.tmp 9), type := 3, pos := "ref.go:131", after := #[], guard := none }) (v := ?vrgrowl2) rfl (by kernel_rfl) (by kernel_rfl) (by kernel_rfl) (fun _ _ _ h => h) (Or.inl ⟨by rfl, ?yrgrowl2⟩) hk ?rrgrowl2
      case yrgrowl2 => (intro w hSw; (try dsimp only at hSw); go_simp; first | done | with_reducible rfl)
      simp only [Act.put, List.setIfInBounds_toArray, List.set_cons_zero, List.set_cons_succ]
      refine wpAnyH_take (i := 2) (oi := { dst := some 48, op := Op.slice 60 (Operand.tmp 46) none (some (Operand.tmp 47)) none, type := 60, pos := "ref.go:131", after := #[{ on := 0, ground := Ground.data }, { on := 1, ground := Ground.data }], guard := none }) (v := ?vrgrowl3) rfl (by kernel_rfl) (by kernel_rfl) (by kernel_rfl) (fun _ _ _ h => h) (Or.inl ⟨by rfl, ?yrgrowl3⟩) hk ?rrgrowl3
      case yrgrowl3 => (intro w hSw; (try dsimp only at hSw); go_simp; first | done | with_reducible rfl)
      simp only [Act.put, List.setIfInBounds_toArray, List.set_cons_zero, List.set_cons_succ]
      refine wpAnyH_take (i := 3) (oi := { dst := some 49, op := Op.move (Operand.tmp 1), type := 3, pos := "ref.go:131", after := #[], guard := none }) (v := ?vrgrowl4) rfl (by kernel_rfl) (by kernel_rfl) (by kernel_rfl) (fun _ _ _ h => h) (Or.inl ⟨by rfl, ?yrgrowl4⟩) hk ?rrgrowl4
      case yrgrowl4 => (intro w hSw; (try dsimp only at hSw); go_simp; first | done | with_reducible rfl)
      simp only [Act.put, List.setIfInBounds_toArray, List.set_cons_zero, List.set_cons_succ]
      refine wpAnyH_take (i := 4) (oi := { dst := some 50, op := Op.move (Operand.tmp 2), type := 3, pos := "ref.go:131", after := #[], guard := none }) (v := ?vrgrowl5) rfl (by kernel_rfl) (by kernel_rfl) (by kernel_rfl) (fun _ _ _ h => h) (Or.inl ⟨by rfl, ?yrgrowl5⟩) hk ?rrgrowl5
      case yrgrowl5 => (intro w hSw; (try dsimp only at hSw); go_simp; first | done | with_reducible rfl)
      simp only [Act.put, List.setIfInBounds_toArray, List.set_cons_zero, List.set_cons_succ]
      refine wpAnyH_take (i := 5) (oi := { dst := some 51, op := Op.move (Operand.tmp 3), type := 4, pos := "ref.go:131", after := #[], guard := none }) (v := ?vrgrowl6) rfl (by kernel_rfl) (by kernel_rfl) (by kernel_rfl) (fun _ _ _ h => h) (Or.inl ⟨by rfl, ?yrgrowl6⟩) hk ?rrgrowl6
      case yrgrowl6 => (intro w hSw; (try dsimp only at hSw); go_simp; first | done | with_reducible rfl)
      simp only [Act.put, List.setIfInBounds_toArray, List.set_cons_zero, List.set_cons_succ]
      refine wpAnyH_take (i := 7) (oi := { dst := some 53, op := Op.move (Operand.tmp 0), type := 60, pos := "ref.go:131", after := #[], guard := none }) (v := ?vrgrowl7) rfl (by kernel_rfl) (by kernel_rfl) (by kernel_rfl) (fun _ _ _ h => h) (Or.inl ⟨by rfl, ?yrgrowl7⟩) hk ?rrgrowl7
      case yrgrowl7 => (intro w hSw; (try dsimp only at hSw); go_simp; first | done | with_reducible rfl)
      simp only [Act.put, List.setIfInBounds_toArray, List.set_cons_zero, List.set_cons_succ]
      refine wpAnyH_take (i := 8) (oi := { dst := some 54, op := Op.move (Operand.tmp 9), type := 3, pos := "ref.go:131", after := #[], guard := none }) (v := ?vrgrowl8) rfl (by kernel_rfl) (by kernel_rfl) (by kernel_rfl) (fun _ _ _ h => h) (Or.inl ⟨by rfl, ?yrgrowl8⟩) hk ?rrgrowl8
      case yrgrowl8 => (intro w hSw; (try dsimp only at hSw); go_simp; first | done | with_reducible rfl)
      simp only [Act.put, List.setIfInBounds_toArray, List.set_cons_zero, List.set_cons_succ]
      refine wpAnyH_take (i := 9) (oi := { dst := some 55, op := Op.slice 60 (Operand.tmp 53) (some (Operand.tmp 54)) none none, type := 60, pos := "ref.go:131", after := #[{ on := 7, ground := Ground.data }, { on := 8, ground := Ground.data }], guard := none }) (v := ?vrgrowl9) rfl (by kernel_rfl) (by kernel_rfl) (by kernel_rfl) (fun _ _ _ h => h) (Or.inl ⟨by rfl, ?yrgrowl9⟩) hk ?rrgrowl9
      case yrgrowl9 => (intro w hSw; (try dsimp only at hSw); go_simp; first | done | with_reducible rfl)
      simp only [Act.put, List.setIfInBounds_toArray, List.set_cons_zero, List.set_cons_succ]
      refine wpAnyH_take (i := 10) (oi := { dst := some 56, op := Op.move (Operand.tmp 2), type := 3, pos := "ref.go:131", after := #[], guard := none }) (v := ?vrgrowl10) rfl (by kernel_rfl) (by kernel_rfl) (by kernel_rfl) (fun _ _ _ h => h) (Or.inl ⟨by rfl, ?yrgrowl10⟩) hk ?rrgrowl10
      case yrgrowl10 => (intro w hSw; (try dsimp only at hSw); go_simp; first | done | with_reducible rfl)
      simp only [Act.put, List.setIfInBounds_toArray, List.set_cons_zero, List.set_cons_succ]
      refine wpAnyH_ready (rs := [6]) (by decide +kernel) (by simp) ?_
      refine AllReadyH.cons (o := { dst := some 52, op := Op.call { callee := Callee.value (Operand.func 98), args := #[Operand.tmp 48, Operand.tmp 49, Operand.tmp 50, Operand.tmp 51], argTypes := #[60, 3, 3, 4] }, type := 60, pos := "ref.go:131", after := #[{ on := 2, ground := Ground.data }, { on := 3, ground := Ground.data }, { on := 4, ground := Ground.data }, { on := 5, ground := Ground.data }], guard := none }) rfl (fun K hK => ?_) AllReadyH.nil
      go_simp
      refine (HI1.out _ hk).mono ?_
      rintro e1 w6 ⟨v6, rfl, hown0, hb1⟩
      have hown := owns_base hown0 hk.size
      replace hk := hk.trans (hb1.mono hk.size)
      clear hb1 hown0
      refine hK.out _ _ hk (fun _ => ?_)
      clear hK K
      try simp only [Act.put, List.setIfInBounds_toArray, List.set_cons_zero, List.set_cons_succ]
      refine wpAnyH_ready (rs := [11]) (by decide +kernel) (by simp) ?_
      refine AllReadyH.cons (o := { dst := some 57, op := Op.call { callee := Callee.value (Operand.func 74), args := #[Operand.tmp 55, Operand.tmp 56], argTypes := #[60, 3] }, type := 30, pos := "ref.go:131", after := #[{ on := 9, ground := Ground.data }, { on := 10, ground := Ground.data }, { on := 6, ground := Ground.chain }], guard := none }) rfl (fun K hK => ?_) AllReadyH.nil
      go_simp
      refine (HR1.out _ hk).mono ?_
      rintro e1 w11 ⟨rfl, hb1⟩
      replace hown := owns_below hown hb1
      replace hk := hk.trans (hb1.mono hk.size)
      clear hb1
      refine hK.out _ _ hk (fun _ => ?_)
      clear hK K
      try simp only [Act.put, List.setIfInBounds_toArray, List.set_cons_zero, List.set_cons_succ]
      refine wpAnyH_ready (rs := [12]) (by decide +kernel) (by simp) ?_
      refine AllReadyH.cons (o := { dst := some 58, op := Op.buildSlice 60 1 #[(0, Operand.tmp 57)], type := 60, pos := "ref.go:131", after := #[{ on := 11, ground := Ground.data }], guard := none }) rfl (fun K hK => ?_) AllReadyH.nil
      rw [if_pos (by rfl)]
      refine wp_build_one (.tmp 57) rfl R hR.1 rfl ?_
      have hone := one_new w11 R hR
      replace hown := owns_new hown rfl (.cells (bv R).toArray 30)
      replace hk := hk.alloc hk.size (.cells (bv R).toArray 30)
      simp only [Act.put, List.setIfInBounds_toArray, List.set_cons_zero, List.set_cons_succ]
      refine hK.out _ _ hk (fun _ => ?_)
      clear hK K
      try simp only [Act.put, List.setIfInBounds_toArray, List.set_cons_zero, List.set_cons_succ]
      refine wpAnyH_ready (rs := [13]) (by decide +kernel) (by simp) ?_
      refine AllReadyH.cons (o := { dst := some 59, op := Op.call { callee := Callee.builtin Builtin.append, args := #[Operand.tmp 52, Operand.tmp 58], argTypes := #[60, 60] }, type := 60, pos := "ref.go:131", after := #[{ on := 6, ground := Ground.data }, { on := 12, ground := Ground.data }, { on := 11, ground := Ground.chain }], guard := none }) rfl (fun K hK => ?_) AllReadyH.nil
      refine step_append_dgs rfl (.tmp 52) (.tmp 58) rfl w.heap.size PL.length _ PL rfl hown _ 1 1 [R] rfl hone (by omega) hk.size ?_
      intro vE wE hown2 hb1 _
      replace hk := hk.trans hb1
      clear hb1 hown hone
      refine hK.out _ _ hk (fun _ => ?_)
      clear hK K
      try simp only [Act.put, List.setIfInBounds_toArray, List.set_cons_zero, List.set_cons_succ]
      refine wpAnyH_take (i := 14) (oi := { dst := some 8, op := Op.assign (Operand.tmp 59), type := 60, pos := "ref.go:131", after := #[{ on := 13, ground := Ground.data }, { on := 13, ground := Ground.chain }, { on := 0, ground := Ground.phase }, { on := 1, ground := Ground.phase }, { on := 2, ground := Ground.phase }, { on := 3, ground := Ground.phase }, { on := 4, ground := Ground.phase }, { on := 5, ground := Ground.phase }, { on := 6, ground := Ground.phase }, { on := 7, ground := Ground.phase }, { on := 8, ground := Ground.phase }, { on := 9, ground := Ground.phase }, { on := 10, ground := Ground.phase }, { on := 11, ground := Ground.phase }, { on := 12, ground := Ground.phase }, { on := 13, ground := Ground.phase }], guard := none }) (v := ?vrgrowl12) rfl (by kernel_rfl) (by kernel_rfl) (by kernel_rfl) (fun _ _ _ h => h) (Or.inl ⟨by rfl, ?yrgrowl12⟩) hk ?rrgrowl12
      case yrgrowl12 => (intro w hSw; (try dsimp only at hSw); go_simp; first | done | with_reducible rfl)
      simp only [Act.put, List.setIfInBounds_toArray, List.set_cons_zero, List.set_cons_succ]
      refine wpAnyH_done (by decide +kernel) ?_ _
      clear hc1 hc2 HI1 HR1
      go_wp2
      go_ret
      exact ⟨_, rfl, by rw [HE.out, List.length_append]; exact hown2, hk⟩
    · have HE : Bx (growL L m b x = growL (L.drop (splitN len)) (m - splitN len) false x ++ [rootL (L.take (splitN len)) x]) := ⟨by rw [growL_right L m b x (by omega) (by rw [hlen]; exact hmk), hlen]⟩
      have HI2 : Bx (∀ W, Below w.heap.size w W → Calls Tryd.prog 98 #[.slice (some ⟨bk, off + 32 * splitN len, none⟩) (len - splitN len) (cap - splitN len), .int .i64 ((m : Int) - (splitN len : Int)), .int .i64 x, .bool false] W fun e w' => ∃ v, e = .returned v ∧ w'.ownsRow W.heap.size 30 32 v (growL (L.drop (splitN len)) (m - splitN len) false x).length (bv (growL (L.drop (splitN len)) (m - splitN len) false x).flatten) ∧ Below W.heap.size W w') :=
        ⟨fun W hW => by
          have h := ih (len - splitN len) (by omega) _ _ _ _ (m - splitN len) false x W (Nat.le_refl _) ((hL.below hW).drop (splitN len) (by omega)) (htab.below hW) (by omega) (by omega) (by omega)
          rw [show ((m - splitN len : Nat) : Int) = (m : Int) - (splitN len : Int) from by omega] at h
          exact h⟩
      have HR2 : Bx (∀ W, Below w.heap.size w W → Calls Tryd.prog 74 #[.slice (some ⟨bk, off, none⟩) (splitN len) cap, .int .i64 x] W fun e w' => e = .returned (.agg (bv (rootL (L.take (splitN len)) x)).toArray) ∧ Below W.heap.size W w') :=
        ⟨fun W hW => refroot_any (splitN len) _ _ _ _ x W (Nat.le_refl _) ((hL.below hW).take _ (by omega)) (htab.below hW) (by omega)⟩
      have hR := rootL_dg (L.take (splitN len)) x (hL.dig.take _)
      have hpl := growL_len (len - splitN len) (L.drop (splitN len)) (m - splitN len) false x (by rw [List.length_drop]; omega) (by omega) (by rw [List.length_drop]; omega)
      have hki : ¬ (m : Int) ≤ (splitN len : Int) := by omega
      have hsb : IntKind.i64.wrap ((m : Int) - (splitN len : Int)) = (m : Int) - (splitN len : Int) := IntWalk.i64_in _ (by omega)
      generalize rootL (L.take (splitN len)) x = R at HE HR2 hR
      generalize growL (L.drop (splitN len)) (m - splitN len) false x = PL at HE HI2 hpl
      generalize splitN len = k at hk1 hk2 HSP HI2 HR2 hc1 hc2 hpl hki hsb
      clear hcc hL htab ih hlen hmk hm
      go_enter Tryd.func98, Tryd.ntmps98
      go_wp2_with fail
      refine (HSP.out _).mono ?_
      rintro e w' ⟨rfl, rfl⟩
      generalize hm : off + 32 * k = o2 at hc2 HI2
      generalize hm2 : len - k = l2 at hc2 HI2 hpl
      generalize hm3 : cap - k = c2 at hc2 HI2
      have hl2 : l2 ≤ 1000000 := by omega
      clear hm hm2 hm3 HSP
      go_wp2_with fail
      have hk : Below w.heap.size w w.drew := below_drewN (Below.refl _ _) 1
      refine wp_region_held_drew (S := fun W => Below w.heap.size w W) (by kernel_rfl) hk (fun _ => ?_)
      refine wpAnyH_take (i := 0) (oi := { dst := some 31, op := Op.move (Operand.tmp 0), type := 60, pos := "ref.go:129", after := #[], guard := none }) (v := ?vrgrowr1) rfl (by kernel_rfl) (by kernel_rfl) (by kernel_rfl) (fun _ _ _ h => h) (Or.inl ⟨by rfl, ?yrgrowr1⟩) hk ?rrgrowr1
      case yrgrowr1 => (intro w hSw; (try dsimp only at hSw); go_simp; first | done | with_reducible rfl)
      simp only [Act.put, List.setIfInBounds_toArray, List.set_cons_zero, List.set_cons_succ]
      refine wpAnyH_take (i := 1) (oi := { dst := some 32, op := Op.move (Operand.tmp 9), type := 3, pos := "ref.go:129", after := #[], guard := none }) (v := ?vrgrowr2) rfl (by kernel_rfl) (by kernel_rfl) (by kernel_rfl) (fun _ _ _ h => h) (Or.inl ⟨by rfl, ?yrgrowr2⟩) hk ?rrgrowr2
      case yrgrowr2 => (intro w hSw; (try dsimp only at hSw); go_simp; first | done | with_reducible rfl)
      simp only [Act.put, List.setIfInBounds_toArray, List.set_cons_zero, List.set_cons_succ]
      refine wpAnyH_take (i := 2) (oi := { dst := some 33, op := Op.slice 60 (Operand.tmp 31) (some (Operand.tmp 32)) none none, type := 60, pos := "ref.go:129", after := #[{ on := 0, ground := Ground.data }, { on := 1, ground := Ground.data }], guard := none }) (v := ?vrgrowr3) rfl (by kernel_rfl) (by kernel_rfl) (by kernel_rfl) (fun _ _ _ h => h) (Or.inl ⟨by rfl, ?yrgrowr3⟩) hk ?rrgrowr3
      case yrgrowr3 => (intro w hSw; (try dsimp only at hSw); go_simp; first | done | with_reducible rfl)
      simp only [Act.put, List.setIfInBounds_toArray, List.set_cons_zero, List.set_cons_succ]
      refine wpAnyH_take (i := 3) (oi := { dst := some 34, op := Op.move (Operand.tmp 1), type := 3, pos := "ref.go:129", after := #[], guard := none }) (v := ?vrgrowr4) rfl (by kernel_rfl) (by kernel_rfl) (by kernel_rfl) (fun _ _ _ h => h) (Or.inl ⟨by rfl, ?yrgrowr4⟩) hk ?rrgrowr4
      case yrgrowr4 => (intro w hSw; (try dsimp only at hSw); go_simp; first | done | with_reducible rfl)
      simp only [Act.put, List.setIfInBounds_toArray, List.set_cons_zero, List.set_cons_succ]
      refine wpAnyH_take (i := 4) (oi := { dst := some 35, op := Op.move (Operand.tmp 9), type := 3, pos := "ref.go:129", after := #[], guard := none }) (v := ?vrgrowr5) rfl (by kernel_rfl) (by kernel_rfl) (by kernel_rfl) (fun _ _ _ h => h) (Or.inl ⟨by rfl, ?yrgrowr5⟩) hk ?rrgrowr5
      case yrgrowr5 => (intro w hSw; (try dsimp only at hSw); go_simp; first | done | with_reducible rfl)
      simp only [Act.put, List.setIfInBounds_toArray, List.set_cons_zero, List.set_cons_succ]
      refine wpAnyH_take (i := 5) (oi := { dst := some 36, op := Op.binOp BinOp.sub 3 (Operand.tmp 34) (Operand.tmp 35) 3, type := 3, pos := "ref.go:129", after := #[{ on := 3, ground := Ground.data }, { on := 4, ground := Ground.data }], guard := none }) (v := ?vrgrowr6) rfl (by kernel_rfl) (by kernel_rfl) (by kernel_rfl) (fun _ _ _ h => h) (Or.inl ⟨by rfl, ?yrgrowr6⟩) hk ?rrgrowr6
      case yrgrowr6 => (intro w hSw; (try dsimp only at hSw); go_simp; first | done | with_reducible rfl)
      simp only [Act.put, List.setIfInBounds_toArray, List.set_cons_zero, List.set_cons_succ]
      refine wpAnyH_take (i := 6) (oi := { dst := some 37, op := Op.move (Operand.tmp 2), type := 3, pos := "ref.go:129", after := #[], guard := none }) (v := ?vrgrowr7) rfl (by kernel_rfl) (by kernel_rfl) (by kernel_rfl) (fun _ _ _ h => h) (Or.inl ⟨by rfl, ?yrgrowr7⟩) hk ?rrgrowr7
      case yrgrowr7 => (intro w hSw; (try dsimp only at hSw); go_simp; first | done | with_reducible rfl)
      simp only [Act.put, List.setIfInBounds_toArray, List.set_cons_zero, List.set_cons_succ]
      refine wpAnyH_take (i := 8) (oi := { dst := some 39, op := Op.move (Operand.tmp 0), type := 60, pos := "ref.go:129", after := #[], guard := none }) (v := ?vrgrowr8) rfl (by kernel_rfl) (by kernel_rfl) (by kernel_rfl) (fun _ _ _ h => h) (Or.inl ⟨by rfl, ?yrgrowr8⟩) hk ?rrgrowr8
      case yrgrowr8 => (intro w hSw; (try dsimp only at hSw); go_simp; first | done | with_reducible rfl)
      simp only [Act.put, List.setIfInBounds_toArray, List.set_cons_zero, List.set_cons_succ]
      refine wpAnyH_take (i := 9) (oi := { dst := some 40, op := Op.move (Operand.tmp 9), type := 3, pos := "ref.go:129", after := #[], guard := none }) (v := ?vrgrowr9) rfl (by kernel_rfl) (by kernel_rfl) (by kernel_rfl) (fun _ _ _ h => h) (Or.inl ⟨by rfl, ?yrgrowr9⟩) hk ?rrgrowr9
      case yrgrowr9 => (intro w hSw; (try dsimp only at hSw); go_simp; first | done | with_reducible rfl)
      simp only [Act.put, List.setIfInBounds_toArray, List.set_cons_zero, List.set_cons_succ]
      refine wpAnyH_take (i := 10) (oi := { dst := some 41, op := Op.slice 60 (Operand.tmp 39) none (some (Operand.tmp 40)) none, type := 60, pos := "ref.go:129", after := #[{ on := 8, ground := Ground.data }, { on := 9, ground := Ground.data }], guard := none }) (v := ?vrgrowr10) rfl (by kernel_rfl) (by kernel_rfl) (by kernel_rfl) (fun _ _ _ h => h) (Or.inl ⟨by rfl, ?yrgrowr10⟩) hk ?rrgrowr10
      case yrgrowr10 => (intro w hSw; (try dsimp only at hSw); go_simp; first | done | with_reducible rfl)
      simp only [Act.put, List.setIfInBounds_toArray, List.set_cons_zero, List.set_cons_succ]
      refine wpAnyH_take (i := 11) (oi := { dst := some 42, op := Op.move (Operand.tmp 2), type := 3, pos := "ref.go:129", after := #[], guard := none }) (v := ?vrgrowr11) rfl (by kernel_rfl) (by kernel_rfl) (by kernel_rfl) (fun _ _ _ h => h) (Or.inl ⟨by rfl, ?yrgrowr11⟩) hk ?rrgrowr11
      case yrgrowr11 => (intro w hSw; (try dsimp only at hSw); go_simp; first | done | with_reducible rfl)
      simp only [Act.put, List.setIfInBounds_toArray, List.set_cons_zero, List.set_cons_succ]
      refine wpAnyH_ready (rs := [7]) (by decide +kernel) (by simp) ?_
      refine AllReadyH.cons (o := { dst := some 38, op := Op.call { callee := Callee.value (Operand.func 98), args := #[Operand.tmp 33, Operand.tmp 36, Operand.tmp 37, Operand.const (Value.bool false)], argTypes := #[60, 3, 3, 4] }, type := 60, pos := "ref.go:129", after := #[{ on := 2, ground := Ground.data }, { on := 5, ground := Ground.data }, { on := 6, ground := Ground.data }], guard := none }) rfl (fun K hK => ?_) AllReadyH.nil
      go_simp
      refine (HI2.out _ hk).mono ?_
      rintro e1 w7 ⟨v7, rfl, hown0, hb1⟩
      have hown := owns_base hown0 hk.size
      replace hk := hk.trans (hb1.mono hk.size)
      clear hb1 hown0
      refine hK.out _ _ hk (fun _ => ?_)
      clear hK K
      try simp only [Act.put, List.setIfInBounds_toArray, List.set_cons_zero, List.set_cons_succ]
      refine wpAnyH_ready (rs := [12]) (by decide +kernel) (by simp) ?_
      refine AllReadyH.cons (o := { dst := some 43, op := Op.call { callee := Callee.value (Operand.func 74), args := #[Operand.tmp 41, Operand.tmp 42], argTypes := #[60, 3] }, type := 30, pos := "ref.go:129", after := #[{ on := 10, ground := Ground.data }, { on := 11, ground := Ground.data }, { on := 7, ground := Ground.chain }], guard := none }) rfl (fun K hK => ?_) AllReadyH.nil
      go_simp
      refine (HR2.out _ hk).mono ?_
      rintro e1 w12 ⟨rfl, hb1⟩
      replace hown := owns_below hown hb1
      replace hk := hk.trans (hb1.mono hk.size)
      clear hb1
      refine hK.out _ _ hk (fun _ => ?_)
      clear hK K
      try simp only [Act.put, List.setIfInBounds_toArray, List.set_cons_zero, List.set_cons_succ]
      refine wpAnyH_ready (rs := [13]) (by decide +kernel) (by simp) ?_
      refine AllReadyH.cons (o := { dst := some 44, op := Op.buildSlice 60 1 #[(0, Operand.tmp 43)], type := 60, pos := "ref.go:129", after := #[{ on := 12, ground := Ground.data }], guard := none }) rfl (fun K hK => ?_) AllReadyH.nil
      rw [if_pos (by rfl)]
      refine wp_build_one (.tmp 43) rfl R hR.1 rfl ?_
      have hone := one_new w12 R hR
      replace hown := owns_new hown rfl (.cells (bv R).toArray 30)
      replace hk := hk.alloc hk.size (.cells (bv R).toArray 30)
      simp only [Act.put, List.setIfInBounds_toArray, List.set_cons_zero, List.set_cons_succ]
      refine hK.out _ _ hk (fun _ => ?_)
      clear hK K
      try simp only [Act.put, List.setIfInBounds_toArray, List.set_cons_zero, List.set_cons_succ]
      refine wpAnyH_ready (rs := [14]) (by decide +kernel) (by simp) ?_
      refine AllReadyH.cons (o := { dst := some 45, op := Op.call { callee := Callee.builtin Builtin.append, args := #[Operand.tmp 38, Operand.tmp 44], argTypes := #[60, 60] }, type := 60, pos := "ref.go:129", after := #[{ on := 7, ground := Ground.data }, { on := 13, ground := Ground.data }, { on := 12, ground := Ground.chain }], guard := none }) rfl (fun K hK => ?_) AllReadyH.nil
      refine step_append_dgs rfl (.tmp 38) (.tmp 44) rfl w.heap.size PL.length _ PL rfl hown _ 1 1 [R] rfl hone (by omega) hk.size ?_
      intro vE wE hown2 hb1 _
      replace hk := hk.trans hb1
      clear hb1 hown hone
      refine hK.out _ _ hk (fun _ => ?_)
      clear hK K
      try simp only [Act.put, List.setIfInBounds_toArray, List.set_cons_zero, List.set_cons_succ]
      refine wpAnyH_take (i := 15) (oi := { dst := some 8, op := Op.assign (Operand.tmp 45), type := 60, pos := "ref.go:129", after := #[{ on := 14, ground := Ground.data }, { on := 14, ground := Ground.chain }, { on := 0, ground := Ground.phase }, { on := 1, ground := Ground.phase }, { on := 2, ground := Ground.phase }, { on := 3, ground := Ground.phase }, { on := 4, ground := Ground.phase }, { on := 5, ground := Ground.phase }, { on := 6, ground := Ground.phase }, { on := 7, ground := Ground.phase }, { on := 8, ground := Ground.phase }, { on := 9, ground := Ground.phase }, { on := 10, ground := Ground.phase }, { on := 11, ground := Ground.phase }, { on := 12, ground := Ground.phase }, { on := 13, ground := Ground.phase }, { on := 14, ground := Ground.phase }], guard := none }) (v := ?vrgrowr13) rfl (by kernel_rfl) (by kernel_rfl) (by kernel_rfl) (fun _ _ _ h => h) (Or.inl ⟨by rfl, ?yrgrowr13⟩) hk ?rrgrowr13
      case yrgrowr13 => (intro w hSw; (try dsimp only at hSw); go_simp; first | done | with_reducible rfl)
      simp only [Act.put, List.setIfInBounds_toArray, List.set_cons_zero, List.set_cons_succ]
      refine wpAnyH_done (by decide +kernel) ?_ _
      clear hc1 hc2 HI2 HR2
      go_wp2
      go_ret
      exact ⟨_, rfl, by rw [HE.out, List.length_append]; exact hown2, hk⟩

set_option maxRecDepth 100000 in
theorem refgrowth_any (a : Option Addr) (len cap : Nat) (L : List (List Int)) (m x : Int) (w : World) (hL : Dgs w a len cap L) (htab : Tab w) (hbd : len ≤ 1000000) :
    Calls Tryd.prog 73 #[.slice a len cap, .int .i64 m, .int .i64 x] w fun e w' => ∃ v, e = .returned (.tuple #[v, .int .i64 (gE len m)]) ∧ w'.ownsRow w.heap.size 30 32 v (gV L m x).length (bv (gV L m x).flatten) ∧ Below w.heap.size w w' := by
  have hlen := hL.len_eq
  by_cases hin : 1 ≤ m ∧ m ≤ (len : Int)
  · have HV : Bx (gV L m x = growL L m.toNat true x) := ⟨by unfold gV; rw [hlen, if_pos hin]⟩
    have HE : Bx (gE len m = 0) := ⟨if_pos hin⟩
    rw [HE.out, HV.out]
    obtain ⟨j, rfl⟩ : ∃ j : Nat, m = (j : Int) := ⟨m.toNat, by omega⟩
    have h1 : decide ((j : Int) < 1) = false := by simp; omega
    have h2 : decide (len < j) = false := by simp; omega
    have h3 : decide ((len : Int) < (j : Int)) = false := by simp; omega
    have HP : Bx (Calls Tryd.prog 98 #[.slice a len cap, .int .i64 j, .int .i64 x, .bool true] w fun e w' => ∃ v, e = .returned v ∧ w'.ownsRow w.heap.size 30 32 v (growL L j true x).length (bv (growL L j true x).flatten) ∧ Below w.heap.size w w') := ⟨refgrowin_any len a len cap L j true x w (Nat.le_refl _) hL htab hbd (by omega) (by omega)⟩
    have ht : ((j : Int)).toNat = j := by omega
    rw [ht]
    have hj1 : ¬ (j : Int) < 1 := by omega
    clear hL htab hlen HV HE ht
    go_enter Tryd.func73, Tryd.ntmps73
    go_wp2_with fail
    refine HP.out.mono ?_
    rintro e w1 ⟨v, rfl, ho, hb⟩
    clear HP
    go_wp2
    go_ret2
    exact ⟨v, rfl, ho, hb⟩
  · have HV : Bx (gV L m x = []) := ⟨by unfold gV; rw [hlen, if_neg hin]⟩
    have HE : Bx (gE len m = 2) := ⟨if_neg hin⟩
    rw [HE.out, HV.out]
    have hon := World.ownsRow_nil w w.heap.size 30 32
    by_cases h0 : m < 1
    · have h1 : decide (m < 1) = true := by simpa using h0
      clear hL htab hlen HV HE hin
      go_enter Tryd.func73, Tryd.ntmps73
      go_wp2
      go_ret2
      exact ⟨_, rfl, hon, Below.refl _ _⟩
    · have h1 : decide (m < 1) = false := by simpa using h0
      have h2 : decide (m > (len : Int)) = true := by simp; omega
      clear hL htab hlen HV HE hin
      go_enter Tryd.func73, Tryd.ntmps73
      go_wp2
      go_ret2
      exact ⟨_, rfl, hon, Below.refl _ _⟩
end Go.Proofs.YtbednfacipphhaaDoor
