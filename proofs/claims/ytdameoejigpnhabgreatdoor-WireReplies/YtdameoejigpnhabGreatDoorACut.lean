/- What stands behind a text; behind digits. -/
import Derived.Test.YtdameoejigpnhabGreatDoorAAns
import Derived.Test.YtdameoejigpnhabGreatDoorATrim
import Derived.Test.YtdameoejigpnhabGreatDoorSlc
import Derived.Deep.RegionHeld3
namespace Go.Proofs.YtdameoejigpnhabGreatDoor
open Go.RowKit
set_option linter.unusedVariables false

set_option maxRecDepth 100000 in
theorem ext_take (v : List Int) (k : Nat) : (strOf v).extract 0 k = strOf (v.take k) := by
  apply ba_ext
  rw [Lib.extract_data, strOf_data, strOf_data, Nat.sub_zero, List.drop_zero, List.map_take]
set_option maxRecDepth 100000 in
theorem str_eq {l m : List Int} (hl : Byt l) (hm : Byt m) : ((strOf l).toList == (strOf m).toList) = decide (l = m) := by
  have e := lit_eq hl m hm (strOf m).toList (by rw [Lib.toList_data]; rfl)
  exact e
set_option maxHeartbeats 1000000 in
theorem wtrim_any (a : Option Addr) (n c : Nat) (l : List Int) (w : World) (h : Bts w a n c l) :
    Calls Tryz.prog 39 #[.slice a n c, .string ⟨#[48, 49, 50, 51, 52, 53, 54, 55, 56, 57]⟩] w fun e w' => ∃ a' c', e = .returned (.slice a' (n - digs l) c') ∧ Bts w' a' (n - digs l) c' (l.drop (digs l)) ∧ Below w.heap.size w w' := by
  have hl := h.len_eq
  have hd := digs_le l
  have hcon := Any.bytes_TrimLeft_laid Tryz.laysV8 (by kernel_rfl) a n c l ⟨#[48, 49, 50, 51, 52, 53, 54, 55, 56, 57]⟩ w hl h.le_cap h.cap_le (fun hp => by obtain ⟨b, o, e, _, hc⟩ := h.spot hp; exact ⟨b, o, e, hc⟩) (fun x hx => by have := h.byt x hx; omega) (by decide) (fun j b hj => by
    have hm := List.mem_of_getElem? hj
    have : ∀ d ∈ digC, d.toNat < 128 := by decide
    exact this b hm)
  refine hcon.mono ?_
  rintro e w' ⟨rfl, hb⟩
  have e1 : Lib.trimLeftS (Lib.bytesOf l) (⟨#[48, 49, 50, 51, 52, 53, 54, 55, 56, 57]⟩ : ByteArray).data.toList = (l.drop (digs l)).map u8I := trim_digs l h.byt
  rw [e1, List.length_map, List.length_drop]
  have e2 : n - (l.length - digs l) = digs l := by omega
  rw [e2]
  unfold Lib.leftV
  by_cases h0 : digs l = n
  · rw [if_pos h0, h0, Nat.sub_self]
    exact ⟨none, 0, rfl, ⟨by rw [List.length_drop]; omega, fun c hc => h.byt c (List.mem_of_mem_drop hc), Nat.le_refl _, Nat.zero_le _, fun _ => rfl, fun hp => absurd hp (Nat.lt_irrefl _)⟩, hb⟩
  · rw [if_neg h0]
    exact ⟨slA a (digs l) c, c - digs l, rfl, (h.rest (digs l) (by omega)).below hb, hb⟩
set_option maxRecDepth 100000 in
set_option maxHeartbeats 2000000 in
theorem wcut_any (a : Option Addr) (n c : Nat) (l s : List Int) (w : World) (h : Bts w a n c l) (hs : Byt s) (hsl : s.length ≤ 1000000) :
    Calls Tryz.prog 38 #[.slice a n c, .string (strOf s)] w fun e w' => ∃ V q, e = .returned (.tuple #[V, .int .i64 (ctE l s)]) ∧ w' = w.drewN q ∧ (ctE l s = 0 → V = .slice (slA a s.length c) (n - s.length) (c - s.length)) ∧ (ctE l s ≠ 0 → V = .slice none 0 0) := by
  have hl := h.len_eq
  have hss : (strOf s).size = s.length := strOf_size s
  obtain ⟨k, hk⟩ : ∃ k, k = min l.length s.length := ⟨_, rfl⟩
  have hkl : k ≤ n := by omega
  have hks : k ≤ s.length := by omega
  have HBL : Bx (Byt l) := ⟨h.byt⟩
  have HB := Bx.mk h
  have hmin : min (n : Int) ((strOf s).size : Int) = (k : Int) := by rw [hss]; omega
  have h1 := fun W => run_sl_h a n c k (k : Int) rfl (by have := h.le_cap; omega) W
  have hP : Bts w (slA a 0 c) k c (l.take k) := by have h9 := h.piece 0 k (Nat.zero_le _) hkl; simpa using h9
  have hcv0 := (hP.drewN 1).str
  have HCT : Bx (ctE l s = if l.take k ≠ s.take k then 4 else if l.length < s.length then 3 else 0) := ⟨by unfold ctE; rw [← hk]⟩
  have hx : (strOf s).extract 0 k = strOf (s.take k) := ext_take s k
  have hne := str_eq (HBL.out.take k) (hs.take k)
  have hz : (k : Int) ≤ ((strOf s).size : Int) := by omega
  have hz0 : (0 : Int) ≤ (k : Int) := by omega
  have hsz : (strOf s).size ≤ 1000000 := by omega
  generalize slA a 0 c = A0 at *
  generalize hTL : l.take k = TL at *
  generalize hTS : s.take k = TS at *
  have hdl : (w.drewN 1) = w.drew := rfl
  rw [hdl] at hcv0
  clear hP hTL hTS hdl HB h
  generalize strOf TL = SL at *
  generalize strOf TS = SS at *
  generalize hSN : strOf s = SN at *
  clear hSN
  have HLS : Bx (SN.size = s.length ∧ l.length = n ∧ k = min l.length s.length) := ⟨hss, hl, hk⟩
  by_cases he : TL = TS
  · rw [decide_eq_true he] at hne
    by_cases hlt : l.length < s.length
    · have HC : Bx (ctE l s = 3) := ⟨by rw [HCT.out, if_neg (fun h => h he), if_pos hlt]⟩
      have g1 : (k : Int) < (SN.size : Int) := by omega
      clear HCT he hss hl hk hkl hks hlt
      go_enter Tryz.func38, Tryz.ntmps38
      go_wp2_with fail
      go_region_held3 (fun W => (convert 22 9 (.slice A0 k c)).run Tryz.prog W = .ok (.string SL) W) (assumption) (fail)
      go_wp2
      go_ret2
      exact ⟨.slice none 0 0, 1, by rw [HC.out]; rfl, rfl, fun h => absurd h (by rw [HC.out]; decide), fun _ => rfl⟩
    · have HC : Bx (ctE l s = 0) := ⟨by rw [HCT.out, if_neg (fun h => h he), if_neg hlt]⟩
      have hks2 : k = s.length := by omega
      have g1 : ¬ (k : Int) < (SN.size : Int) := by omega
      have h2 := fun W => run_sl_l a n c k (k : Int) rfl hkl W
      have HK := Bx.mk hks2
      clear HCT he hss hl hk hkl hks hlt hks2
      go_enter Tryz.func38, Tryz.ntmps38
      go_wp2_with fail
      go_region_held3 (fun W => (convert 22 9 (.slice A0 k c)).run Tryz.prog W = .ok (.string SL) W) (assumption) (fail)
      go_wp2
      go_ret2
      exact ⟨.slice (slA a k c) (n - k : Nat) (c - k : Nat), 1, by rw [HC.out]; rfl, rfl, fun _ => by rw [HK.out], fun h => absurd HC.out h⟩
  · rw [decide_eq_false he] at hne
    have HC : Bx (ctE l s = 4) := ⟨by rw [HCT.out, if_pos he]⟩
    clear HCT he hss hl hk hkl hks
    go_enter Tryz.func38, Tryz.ntmps38
    go_wp2_with fail
    go_region_held3 (fun W => (convert 22 9 (.slice A0 k c)).run Tryz.prog W = .ok (.string SL) W) (assumption) (fail)
    go_wp2
    go_ret2
    exact ⟨.slice none 0 0, 1, by rw [HC.out]; rfl, rfl, fun h => absurd h (by rw [HC.out]; decide), fun _ => rfl⟩
end Go.Proofs.YtdameoejigpnhabGreatDoor
