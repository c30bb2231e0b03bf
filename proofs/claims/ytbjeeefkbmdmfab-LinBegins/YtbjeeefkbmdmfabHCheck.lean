/- What Check answers. -/
import Derived.Test.YtbjeeefkbmdmfabHCan
import Derived.BigQuiet
namespace Go.Proofs.Ytbjeeefkbmdmfab
open Go.RowKit
set_option linter.unusedVariables false

/-- who waits: sixteen bools in a variable -/
def WB (w : World) (g : Nat) (W : Int → Bool) : Prop := ∃ cs : Array Value, w.heap[g]? = some (.cells cs 62 (0, 0)) ∧ cs.size = 16 ∧ ∀ c : Nat, c < 16 → cs[c]? = some (.bool (W c))
set_option maxRecDepth 100000 in
theorem WB.cell {w : World} {g : Nat} {W : Int → Bool} (h : WB w g W) (c : Nat) (hc : c < 16) : w.cell? ⟨g, c, none⟩ = some (.bool (W c)) ∧ w.frozen? ⟨g, c, none⟩ = false := by
  obtain ⟨cs, h1, _, h3⟩ := h
  exact ⟨by rw [cell_of_row _ _ c cs _ (0, 0) h1]; exact h3 c hc, frozen_of_row _ _ c cs _ h1⟩
set_option maxRecDepth 100000 in
theorem WB.lt {w : World} {g : Nat} {W : Int → Bool} (h : WB w g W) : g < w.heap.size := by
  obtain ⟨cs, h1, _⟩ := h
  exact (Array.getElem?_eq_some_iff.1 h1).1
set_option maxRecDepth 100000 in
theorem WB.below {w w' : World} {g : Nat} {W : Int → Bool} (h : WB w g W) (hb : Below w.heap.size w w') : WB w' g W := by
  have hlt := h.lt
  obtain ⟨cs, h1, h2⟩ := h
  exact ⟨cs, (hb.block g hlt).trans h1, h2⟩
set_option maxRecDepth 100000 in
theorem WB.set {w : World} {g : Nat} {W W' : Int → Bool} (h : WB w g W) (c : Nat) (hc : c < 16) (k : Bool) (hW : ∀ d : Int, W' d = if d = (c : Int) then k else W d) : WB (w.setCell ⟨g, c, none⟩ (.bool k)) g W' := by
  obtain ⟨cs, h1, h2, h3⟩ := h
  refine ⟨cs.setIfInBounds c (.bool k), heap_setCell_same w g c cs _ _ h1, by simp [h2], fun d hd => ?_⟩
  rw [Array.getElem?_setIfInBounds, hW d]
  by_cases e : c = d
  · subst e; rw [if_pos rfl, if_pos (by omega), if_pos rfl]
  · rw [if_neg e, if_neg (by omega)]; exact h3 d hd
set_option maxRecDepth 100000 in
theorem wb_new (w : World) : WB (w.alloc (.cells #[.bool false, .bool false, .bool false, .bool false, .bool false, .bool false, .bool false, .bool false, .bool false, .bool false, .bool false, .bool false, .bool false, .bool false, .bool false, .bool false] 62)) w.heap.size nobW := by
  refine ⟨_, heap_alloc_new w _, rfl, fun c hc => ?_⟩
  match c, hc with
  | 0, _ => rfl
  | 1, _ => rfl
  | 2, _ => rfl
  | 3, _ => rfl
  | 4, _ => rfl
  | 5, _ => rfl
  | 6, _ => rfl
  | 7, _ => rfl
  | 8, _ => rfl
  | 9, _ => rfl
  | 10, _ => rfl
  | 11, _ => rfl
  | 12, _ => rfl
  | 13, _ => rfl
  | 14, _ => rfl
  | 15, _ => rfl
  | n + 16, h => exact absurd h (by omega)
set_option maxRecDepth 100000 in
theorem chk_ret {r : Nat × Int} {a : Nat} {b : Int} (h : r = (a, b)) : Ending.returned (.tuple #[.int .i64 a, .int .i64 b]) = .returned (.tuple #[.int .i64 r.1, .int .i64 r.2]) := by rw [h]
set_option maxRecDepth 100000 in
theorem updW_nat {W : Int → Bool} {c : Nat} {k : Bool} {o v : Int} : ∀ d : Int, updW W ⟨c, k, o, v⟩ d = if d = (c : Int) then k else W d := fun _ => rfl
set_option maxHeartbeats 2000000 in
theorem check_any (a : Option Addr) (len cap : Nat) (l : List Ev) (w : World) (h : Evs w a len cap l) :
    Calls Try.prog 15 #[.slice a len cap] w fun e w' => e = .returned (.tuple #[.int .i64 (chk l).1, .int .i64 (chk l).2]) ∧ Below w.heap.size w w' := by
  have H := Bx.mk h
  have HLEN : Bx (l.length = len) := ⟨h.len_eq⟩
  have hm := Nat.le_trans h.le_cap h.cap_le
  unfold maxLen at hm
  obtain ⟨gw, HGW⟩ : ∃ gw, Bx (gw = w.heap.size) := ⟨_, ⟨rfl⟩⟩
  have HW0 := Bx.mk (wb_new w)
  rw [← HGW.out] at HW0
  have HB0 : Bx (Below w.heap.size w (w.alloc (.cells #[.bool false, .bool false, .bool false, .bool false, .bool false, .bool false, .bool false, .bool false, .bool false, .bool false, .bool false, .bool false, .bool false, .bool false, .bool false, .bool false] 62))) := ⟨(Below.refl _ _).alloc (Nat.le_refl _) _⟩
  clear h
  go_enter Try.func15, Try.ntmps15
  go_wp2_with fail
  rw [← HGW.out]
  generalize w.alloc (.cells #[.bool false, .bool false, .bool false, .bool false, .bool false, .bool false, .bool false, .bool false, .bool false, .bool false, .bool false, .bool false, .bool false, .bool false, .bool false, .bool false] 62) = w0 at HW0 HB0 ⊢
  go_loopw [5, 10] (fun n i wr => ∃ m p : Nat, m ≤ len ∧ p ≤ m ∧ i = .int .i64 m ∧ n = .int .i64 p ∧ Bx (p = cOf (l.take m)) ∧ Bx (WB wr gw (wOf (l.take m))) ∧ Bx (Below w.heap.size w wr) ∧ Bx (chkR l m = chk l)) (fun _ i _ => len - (intOf i).toNat)
  case atStart => exact ⟨0, 0, Nat.zero_le _, Nat.zero_le _, rfl, rfl, ⟨rfl⟩, HW0, HB0, ⟨rfl⟩⟩
  case round =>
    clear HW0 HB0
    obtain ⟨m, p, hml, hpm, rfl, rfl, HP, HW, HB, HC⟩ := hrel
    by_cases hlt : m < len
    · have hkI : (m : Int) < (len : Int) := by omega
      have hmL : m < l.length := by rw [HLEN.out]; exact hlt
      obtain ⟨b, off, rfl, hbl, x0, x1, x2, x3⟩ := (H.out.below HB.out).ev m hlt
      have HBAD : Bx (errE l m ≠ 0 → chk l = (m, errE l m)) := ⟨fun he => by rw [← HC.out]; exact chkR_bad l m hmL he⟩
      have HGO : Bx (errE l m = 0 → chkR l (m + 1) = chk l) := ⟨fun he => by rw [← HC.out]; exact (chkR_next l m hmL he).symm⟩
      have HER : Bx (errE l m = stpE (wOf (l.take m)) p (l.getD m ev0)) := ⟨by rw [HP.out]; rfl⟩
      have HUP : Bx (wOf (l.take (m + 1)) = updW (wOf (l.take m)) (l.getD m ev0)) := ⟨by rw [take_snoc l m hmL, wOf_snoc]⟩
      have HCN : Bx (cOf (l.take (m + 1)) = cntK p (l.getD m ev0)) := ⟨by rw [take_snoc l m hmL, cOf_snoc, HP.out]⟩
      generalize l.getD m ev0 = x at x0 x1 x2 x3 HER HUP HCN
      generalize wOf (l.take m) = W at HW HER HUP
      obtain ⟨c, k, o, v⟩ := x
      simp only at x0 x1 x2 x3
      obtain ⟨g7, HG7⟩ : ∃ g7, Bx (g7 = wr.heap.size) := ⟨_, ⟨rfl⟩⟩
      have HGN : Bx (gw < wr.heap.size) := ⟨HW.out.lt⟩
      have hba : Below wr.heap.size wr (wr.alloc (.cells #[.int .i64 c, .bool k, .int .i64 o, .int .i64 v] 54)) := (Below.refl _ _).alloc (Nat.le_refl _) _
      have hra := heap_alloc_new wr (.cells #[.int .i64 c, .bool k, .int .i64 o, .int .i64 v] 54)
      rw [← HG7.out] at hra
      have HRA := Bx.mk hra
      have HW1 := Bx.mk (HW.out.below hba)
      have HB1 := Bx.mk (bstep HB.out hba)
      clear hba hra HC HP HW HB
      go_wp2_with fail
      rw [← HG7.out]
      generalize wr.alloc (.cells #[.int .i64 c, .bool k, .int .i64 o, .int .i64 v] 54) = w1 at HRA HW1 HB1 ⊢
      clear x0 x1 x2 x3 hbl
      refine (can_any c o v k _).mono ?_
      rintro e w2 ⟨rfl, hb2⟩
      have hr2 : w2.heap[g7]? = _ := (hb2.block g7 (Array.getElem?_eq_some_iff.1 HRA.out).1).trans HRA.out
      have y0 := cell_of_row _ g7 0 _ _ (0, 0) hr2
      have y1 := cell_of_row _ g7 1 _ _ (0, 0) hr2
      have HR2 := Bx.mk hr2
      have HW2 := Bx.mk (HW1.out.below hb2)
      have HB2 := Bx.mk (bstep HB1.out hb2)
      clear hb2 hr2 HRA HW1 HB1
      cases hcan : canE ⟨c, k, o, v⟩ with
      | false =>
        have HF : Bx (chk l = (m, 2)) := ⟨by have := HER.out; rw [stpE_can hcan] at this; rw [HBAD.out (by rw [this]; decide), this]⟩
        go_wp2_with fail
        go_ret2
        exact ⟨chk_ret HF.out, HB2.out⟩
      | true =>
        have hc16 := ((canE_iff _).1 hcan).1
        simp only at hc16
        obtain ⟨c, rfl⟩ : ∃ n : Nat, c = n := ⟨c.toNat, by omega⟩
        have hc : c < 16 := by omega
        have hcJ : (c : Int) < 16 := by omega
        have HCAN := Bx.mk hcan
        clear hcan hc16
        by_cases hbig : k = true ∧ p = 64
        · have HF : Bx (chk l = (m, 5)) := ⟨by have := HER.out; rw [stpE_big HCAN.out hbig.1 hbig.2] at this; rw [HBAD.out (by rw [this]; decide), this]⟩
          obtain ⟨rfl, rfl⟩ := hbig
          go_wp2_with fail
          go_ret2
          exact ⟨chk_ret HF.out, HB2.out⟩
        · have HBIG := Bx.mk hbig
          have hgb : k = false ∨ (k = true ∧ ((p : Int) == 64) = false) := by
            cases k with
            | false => exact .inl rfl
            | true => exact .inr ⟨rfl, by have : p ≠ 64 := fun e => hbig ⟨rfl, e⟩; simp; omega⟩
          obtain ⟨z0, z1⟩ := HW2.out.cell c hc
          by_cases hst : k = W c
          · have HF : Bx (chk l = (m, 20)) := ⟨by have := HER.out; rw [stpE_state HCAN.out HBIG.out hst] at this; rw [HBAD.out (by rw [this]; decide), this]⟩
            have hq : (k == W c) = true := by rw [hst]; simp
            generalize W c = kw at z0 hq
            clear hst hbig
            rcases hgb with rfl | ⟨rfl, hgb⟩
            · go_wp2_with fail
              go_quiet (fail)
              go_wp2_with fail
              go_ret2
              exact ⟨chk_ret HF.out, below_drewN HB2.out _⟩
            · go_wp2_with fail
              go_quiet (fail)
              go_wp2_with fail
              go_ret2
              exact ⟨chk_ret HF.out, below_drewN HB2.out _⟩
          · have HE : Bx (errE l m = 0) := ⟨by rw [HER.out]; exact stpE_ok HCAN.out HBIG.out hst⟩
            have HC2 : Bx (chkR l (m + 1) = chk l) := ⟨HGO.out HE.out⟩
            have hq : (k == W c) = false := by simpa using hst
            generalize W c = kw at z0 hq
            have HS2 : Bx (∀ q, WB ((w2.drewN q).setCell ⟨gw, c, none⟩ (.bool k)) gw (wOf (l.take (m + 1))) ∧ Below w.heap.size w ((w2.drewN q).setCell ⟨gw, c, none⟩ (.bool k))) := ⟨fun q => ⟨(HW2.out.below (below_drewN (Below.refl _ _) q)).set c hc k (by rw [HUP.out]; exact updW_nat), (below_drewN HB2.out q).setCell (p := ⟨gw, c, none⟩) (by rw [HGW.out]; exact Nat.le_refl _) _⟩⟩
            have hy : ∀ q, ((w2.drewN q).setCell ⟨gw, c, none⟩ (.bool k)).cell? ⟨g7, 1, none⟩ = some (.bool k) := fun q => by
              rw [World.cell?_of_block (a := ⟨g7, 1, none⟩) (heap_setCell_other (w2.drewN q) ⟨gw, c, none⟩ g7 _ (by have := HGN.out; have := HG7.out; show g7 ≠ gw; omega))]
              exact y1
            clear hst hbig HER HUP
            rcases hgb with rfl | ⟨rfl, hgb⟩
            · go_wp2_with fail
              go_quiet (fail)
              go_wp2_with fail
              go_roundw
              case rel => exact ⟨m + 1, p, by omega, by omega, by go_num, by go_num, ⟨HCN.out.symm⟩, ⟨(HS2.out _).1⟩, ⟨(HS2.out _).2⟩, HC2⟩
              case measure => simp [intOf]; omega
            · go_wp2_with fail
              go_quiet (fail)
              go_wp2_with fail
              go_roundw
              case rel => exact ⟨m + 1, p + 1, by omega, by omega, by go_num, by go_num, ⟨HCN.out.symm⟩, ⟨(HS2.out _).1⟩, ⟨(HS2.out _).2⟩, HC2⟩
              case measure => simp [intOf]; omega
    · have HF : Bx (chk l = (0, 0)) := ⟨by rw [← HC.out]; exact chkR_end l m (by rw [HLEN.out]; omega)⟩
      have hkI : ¬ (m : Int) < (len : Int) := by omega
      go_wp2_with fail
      go_ret2
      exact ⟨chk_ret (a := 0) HF.out, HB.out⟩
end Go.Proofs.Ytbjeeefkbmdmfab
