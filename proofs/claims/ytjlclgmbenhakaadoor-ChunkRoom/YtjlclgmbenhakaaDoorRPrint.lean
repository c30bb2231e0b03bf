/- The document's own Print. -/
import Derived.Test.YtjlclgmbenhakaaDoorRHex
import Derived.Test.YtjlclgmbenhakaaDoorCPrint
namespace Go.Proofs.YtjlclgmbenhakaaDoor
open Go.RowKit
set_option linter.unusedVariables false

/-- the state of the loop -/
structure PW (w wr : World) (size : Nat) (b O : List Int) (v : Value) (p : Nat) : Prop where
  own : wr.ownsRow w.heap.size 5 1 v O.length (bv O)
  byt : Byt O
  bel : Below w.heap.size w wr
  le : O.length ≤ 2060 * p
  run : O ++ prL size (b.drop p) = prL size b
set_option maxRecDepth 100000 in
theorem bts_two (w : World) : Bts (w.alloc (.cells #[.int .u8 13, .int .u8 10] 5)) (some ⟨w.heap.size, 0, none⟩) 2 2 [13, 10] := bts_const w [13, 10] (by intro c hc; simp only [List.mem_cons, List.not_mem_nil, or_false] at hc; omega) (0, 0) (by decide)
set_option maxRecDepth 100000 in
theorem bts_five (w : World) : Bts (w.alloc (.cells #[.int .u8 48, .int .u8 13, .int .u8 10, .int .u8 13, .int .u8 10] 5)) (some ⟨w.heap.size, 0, none⟩) 5 5 [48, 13, 10, 13, 10] := bts_const w [48, 13, 10, 13, 10] (by intro c hc; simp only [List.mem_cons, List.not_mem_nil, or_false] at hc; omega) (0, 0) (by decide)
set_option maxRecDepth 100000 in
set_option maxHeartbeats 2000000 in
theorem rprint_ok (a : Option Addr) (len cap size : Nat) (b : List Int) (w : World) (h : Bts w a len cap b) (hs1 : 1 ≤ size) (hs2 : size ≤ 2048) (hl2 : len ≤ 2048) :
    Calls Tryd.prog 9 #[.slice a len cap, .int .i64 (size : Int)] w fun e w' => ∃ v, e = .returned (.tuple #[v, .int .i64 0]) ∧ w'.ownsRow w.heap.size 5 1 v (prL size b).length (bv (prL size b)) ∧ Below w.heap.size w w' := by
  have hl := h.len_eq
  have hlc := h.le_cap
  have hcm := h.cap_le
  unfold maxLen at hcm
  have g1 : decide ((size : Int) < 1) = false := by simp; omega
  have g2 : decide ((size : Int) > 2048) = false := by simp; omega
  have g3 : decide ((len : Int) > 2048) = false := by simp; omega
  have H0 := Bx.mk h
  have HLN := Bx.mk hl
  have HBY : Bx (Byt b) := ⟨h.byt⟩
  clear h hl
  go_enter Tryd.func9, Tryd.ntmps9
  go_wp2
  clear g1 g2 g3
  go_loopw [6, 7] (fun u i wr => ∃ (p : Nat) (O : List Int), p ≤ len + 4096 ∧ i = .int .i64 p ∧ Bx (PW w wr size b O u p)) (fun _ i _ => len + 5000 - (intOf i).toNat)
  case atStart => exact ⟨0, [], by omega, rfl, ⟨World.ownsRow_nil _ _ _ _, Byt.nil, Below.refl _ _, by simp, by simp⟩⟩
  case round =>
    obtain ⟨p, O, hp, rfl, HS⟩ := hrel
    obtain ⟨nO, hnO⟩ : ∃ n, O.length = n := ⟨_, rfl⟩
    have HO : Bx (wr.ownsRow w.heap.size 5 1 u6 nO (bv O)) := ⟨by rw [← hnO]; exact HS.out.own⟩
    have hnb : nO ≤ 2060 * p := by rw [← hnO]; exact HS.out.le
    have HBL := Bx.mk HS.out.bel
    have HRUN := Bx.mk HS.out.run
    have HOB := Bx.mk HS.out.byt
    have HNO := Bx.mk hnO
    have H := Bx.mk (H0.out.below HS.out.bel)
    obtain ⟨av, cv, hv⟩ := own_sl HO.out
    subst hv
    clear hnO HS
    by_cases hlt : p < len
    · have hpI : decide ((p : Int) < (len : Int)) = true := by simp; omega
      have hne : b.drop p ≠ [] := fun e => by have := congrArg List.length e; rw [List.length_drop, HLN.out] at this; simp at this; omega
      have hrun := HRUN.out
      rw [prL_cons size hs1 hne, List.drop_drop] at hrun
      obtain ⟨q, hq, hq1⟩ : ∃ q, q = min (p + size) len ∧ p < q ∧ q ≤ len := ⟨_, rfl, by omega, by omega⟩
      have hd : (b.drop p).take size = (b.drop p).take (q - p) := by
        by_cases hc : p + size ≤ len
        · rw [show q - p = size from by omega]
        · rw [List.take_of_length_le (by rw [List.length_drop, HLN.out]; omega), List.take_of_length_le (by rw [List.length_drop, HLN.out]; omega)]
      have hdl : ((b.drop p).take (q - p)).length = q - p := by rw [List.length_take, List.length_drop, HLN.out]; omega
      rw [hd] at hrun
      have hck : ckL ((b.drop p).take (q - p)) = hexN (q - p) ++ ([13, 10] ++ ((b.drop p).take (q - p) ++ [13, 10])) := by unfold ckL; rw [hdl]
      rw [hck] at hrun
      obtain ⟨d, hde⟩ : ∃ d, d = (b.drop p).take (q - p) := ⟨_, rfl⟩
      obtain ⟨hx, hhx⟩ : ∃ hx, hx = hexN (q - p) := ⟨_, rfl⟩
      have hx3 := (hexN_len (q - p)).2 (by omega)
      have hx1 := (hexN_len (q - p)).1
      have hxb := hexN_byt (q - p)
      obtain ⟨hxS, hhS⟩ : ∃ s, s = strOf hx := ⟨_, rfl⟩
      obtain ⟨nx, hnx⟩ : ∃ n, n = hx.length := ⟨_, rfl⟩
      rw [← hhx] at hx3 hx1 hxb hrun
      rw [← hde] at hrun hdl
      rw [← hnx] at hx3 hx1
      have HX1 : Bx (0 < hxS.size) := ⟨by rw [hhS, strOf_size, ← hnx]; omega⟩
      have HX2 : Bx (hxS.size = nx) := ⟨by rw [hhS, strOf_size, hnx]⟩
      have HX3 : Bx (strL hxS = hx) := ⟨by rw [hhS, strL_strOf hxb]⟩
      have HXS : Bx (strOf (hexN (q - p)) = hxS) := ⟨by rw [hhS, hhx]⟩
      have HDB : Bx (Byt d) := ⟨by rw [hde]; exact fun c hc => HBY.out c (List.mem_of_mem_drop (List.mem_of_mem_take hc))⟩
      have HNX := Bx.mk hnx
      have HDL := Bx.mk hdl
      have HDE := Bx.mk hde
      have HXB := Bx.mk hxb
      have hqs : q - p ≤ size := by omega
      have HNEW : Bx ((O ++ hx ++ [13, 10] ++ d ++ [13, 10]) ++ prL size (b.drop (p + size)) = prL size b) := ⟨by rw [← hrun]; simp⟩
      clear hrun hck hd hdl hde hhx hhS hnx hxb hne HRUN
      by_cases hend : len < p + size
      · have k3 : decide ((p : Int) + size > (len : Int)) = true := by simp; omega
        have HQL : Bx (q = len) := ⟨by omega⟩
        clear hend hq
        have hsl := run_sl_lh a len cap p q (p : Int) ((len : Int)) rfl (by have h9 := HQL.out; omega) (by omega) (by omega)
        have HPW : Bx (∀ W, Below w.heap.size w W → Bts W (slA a p cap) (q - p) (cap - p) d) := ⟨fun W hW => by rw [HDE.out]; exact (H0.out.below hW).piece p q (by omega) (by omega)⟩
        generalize slA a p cap = a3 at hsl HPW
        go_wp2_with fail
        have hqp : ((len : Int)) - (p : Int) = ((q - p : Nat) : Int) := by have h9 := HQL.out; omega
        rw [hqp]
        clear hqp
        refine (rhex_any (q - p) _ (by omega)).mono ?_
        rintro e w' ⟨rfl, hw'⟩
        subst hw'
        rw [HXS.out]
        go_wp2_with (first
          | (at_builtin; refine wpList_append_str rfl (.tmp 34) (.tmp 38) rfl w.heap.size nO _ O rfl HO.out hxS rfl HX1.out (by rw [HX2.out]; omega) HBL.out.size ?_; intro v1 w1 ho1 hk1 _; rw [HX2.out, HX3.out] at ho1; have HO1 := Bx.mk ho1; have HB1 := Bx.mk (HBL.out.trans (hk1.belowB HO.out HBL.out.size)); clear ho1 hk1)
          | (at_builtin; refine wpList_append_bts rfl (.tmp 40) (.tmp 41) rfl w.heap.size (nO + nx) v1 (O ++ hx) rfl (HO1.out.alloc _) _ 2 2 [13, 10] rfl (bts_two _) (by omega) (by have h9 := HB1.out.size; simp; omega) ?_; intro v2 w2 ho2 hb2 _; have HO2 := Bx.mk ho2; have HB2 := Bx.mk ((HB1.out.alloc HB1.out.size _).trans hb2); clear ho2 hb2)
          | (at_builtin; refine wpList_append_bts rfl (.tmp 43) (.tmp 47) rfl w.heap.size (nO + nx + 2) v2 (O ++ hx ++ [13, 10]) rfl HO2.out a3 (q - p) _ d rfl (HPW.out _ HB2.out) (by omega) HB2.out.size ?_; intro v3 w3 ho3 hb3 _; have HO3 := Bx.mk ho3; have HB3 := Bx.mk (HB2.out.trans hb3); clear ho3 hb3)
          | (at_builtin; refine wpList_append_bts rfl (.tmp 49) (.tmp 50) rfl w.heap.size (nO + nx + 2 + (q - p)) v3 (O ++ hx ++ [13, 10] ++ d) rfl (HO3.out.alloc _) _ 2 2 [13, 10] rfl (bts_two _) (by omega) (by have h9 := HB3.out.size; simp; omega) ?_; intro v4 w4 ho4 hb4 _; obtain ⟨a4, c4, hv4⟩ := own_sl ho4; subst hv4; have HO4 := Bx.mk ho4; have HB4 := Bx.mk ((HB3.out.alloc HB3.out.size _).trans hb4); clear ho4 hb4))
        go_roundw
        case rel =>
          have e1 : (O ++ hx ++ [13, 10] ++ d ++ [13, 10]).length = nO + nx + 2 + (q - p) + 2 := by
            simp only [List.length_append, List.length_cons, List.length_nil, HNO.out, ← HNX.out, HDL.out]
          refine ⟨p + size, _, by omega, by go_num, ⟨?_, ?_, HB4.out, ?_, HNEW.out⟩⟩
          · rw [e1]; exact HO4.out
          · have ht : Byt [13, 10] := by intro c hc; simp only [List.mem_cons, List.not_mem_nil, or_false] at hc; omega
            exact (((HOB.out.append HXB.out).append ht).append HDB.out).append ht
          · rw [e1]; omega
        case measure => simp [intOf]; omega
      · have k3 : decide ((p : Int) + size > (len : Int)) = false := by simp; omega
        have HQL : Bx (q = p + size) := ⟨by omega⟩
        clear hend hq
        have hsl := run_sl_lh a len cap p q (p : Int) ((p : Int) + size) rfl (by have h9 := HQL.out; omega) (by omega) (by omega)
        have HPW : Bx (∀ W, Below w.heap.size w W → Bts W (slA a p cap) (q - p) (cap - p) d) := ⟨fun W hW => by rw [HDE.out]; exact (H0.out.below hW).piece p q (by omega) (by omega)⟩
        generalize slA a p cap = a3 at hsl HPW
        go_wp2_with fail
        have hqp : ((p : Int) + size) - (p : Int) = ((q - p : Nat) : Int) := by have h9 := HQL.out; omega
        rw [hqp]
        clear hqp
        refine (rhex_any (q - p) _ (by omega)).mono ?_
        rintro e w' ⟨rfl, hw'⟩
        subst hw'
        rw [HXS.out]
        go_wp2_with (first
          | (at_builtin; refine wpList_append_str rfl (.tmp 34) (.tmp 38) rfl w.heap.size nO _ O rfl HO.out hxS rfl HX1.out (by rw [HX2.out]; omega) HBL.out.size ?_; intro v1 w1 ho1 hk1 _; rw [HX2.out, HX3.out] at ho1; have HO1 := Bx.mk ho1; have HB1 := Bx.mk (HBL.out.trans (hk1.belowB HO.out HBL.out.size)); clear ho1 hk1)
          | (at_builtin; refine wpList_append_bts rfl (.tmp 40) (.tmp 41) rfl w.heap.size (nO + nx) v1 (O ++ hx) rfl (HO1.out.alloc _) _ 2 2 [13, 10] rfl (bts_two _) (by omega) (by have h9 := HB1.out.size; simp; omega) ?_; intro v2 w2 ho2 hb2 _; have HO2 := Bx.mk ho2; have HB2 := Bx.mk ((HB1.out.alloc HB1.out.size _).trans hb2); clear ho2 hb2)
          | (at_builtin; refine wpList_append_bts rfl (.tmp 43) (.tmp 47) rfl w.heap.size (nO + nx + 2) v2 (O ++ hx ++ [13, 10]) rfl HO2.out a3 (q - p) _ d rfl (HPW.out _ HB2.out) (by omega) HB2.out.size ?_; intro v3 w3 ho3 hb3 _; have HO3 := Bx.mk ho3; have HB3 := Bx.mk (HB2.out.trans hb3); clear ho3 hb3)
          | (at_builtin; refine wpList_append_bts rfl (.tmp 49) (.tmp 50) rfl w.heap.size (nO + nx + 2 + (q - p)) v3 (O ++ hx ++ [13, 10] ++ d) rfl (HO3.out.alloc _) _ 2 2 [13, 10] rfl (bts_two _) (by omega) (by have h9 := HB3.out.size; simp; omega) ?_; intro v4 w4 ho4 hb4 _; obtain ⟨a4, c4, hv4⟩ := own_sl ho4; subst hv4; have HO4 := Bx.mk ho4; have HB4 := Bx.mk ((HB3.out.alloc HB3.out.size _).trans hb4); clear ho4 hb4))
        go_roundw
        case rel =>
          have e1 : (O ++ hx ++ [13, 10] ++ d ++ [13, 10]).length = nO + nx + 2 + (q - p) + 2 := by
            simp only [List.length_append, List.length_cons, List.length_nil, HNO.out, ← HNX.out, HDL.out]
          refine ⟨p + size, _, by omega, by go_num, ⟨?_, ?_, HB4.out, ?_, HNEW.out⟩⟩
          · rw [e1]; exact HO4.out
          · have ht : Byt [13, 10] := by intro c hc; simp only [List.mem_cons, List.not_mem_nil, or_false] at hc; omega
            exact (((HOB.out.append HXB.out).append ht).append HDB.out).append ht
          · rw [e1]; omega
        case measure => simp [intOf]; omega
    · have hpI : decide ((p : Int) < (len : Int)) = false := by simp; omega
      have HT : Bx (O ++ [48, 13, 10, 13, 10] = prL size b) := ⟨by
        rw [← HRUN.out, List.drop_of_length_le (by rw [HLN.out]; omega), prL_nil]⟩
      clear HRUN H
      go_wp2_with (at_builtin; refine wpList_append_bts rfl (.tmp 52) (.tmp 53) rfl w.heap.size nO _ O rfl (HO.out.alloc _) _ 5 5 [48, 13, 10, 13, 10] rfl (bts_five _) (by omega) (by have h9 := HBL.out.size; simp; omega) ?_; intro v2 w2 ho2 hb2 _; have HO2 := Bx.mk ho2; have HB2 := Bx.mk ((HBL.out.alloc HBL.out.size _).trans hb2); clear ho2 hb2)
      go_ret2
      exact ⟨v2, rfl, by rw [← HT.out, List.length_append, HNO.out]; exact HO2.out, HB2.out⟩
end Go.Proofs.YtjlclgmbenhakaaDoor
