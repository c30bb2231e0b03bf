/- A chunk behind bytes: putChunk. -/
import Derived.Test.YtjlclgmbenhakaaDoorFmt16
namespace Go.Proofs.YtjlclgmbenhakaaDoor
open Go.RowKit
set_option linter.unusedVariables false

def crlf : ByteArray := ⟨#[13, 10]⟩
set_option maxRecDepth 100000 in
theorem crlf_l : strL crlf = [13, 10] := by decide
set_option maxRecDepth 100000 in
theorem crlf_s : crlf.size = 2 := rfl
set_option maxRecDepth 100000 in
set_option maxHeartbeats 1000000 in
theorem putchunk_any (base n : Nat) (v : Value) (l : List Int) (ao : Option Addr) (m c : Nat) (d : List Int) (w : World) (hB : Bru w) (hown : w.ownsRow base 5 1 v n (bv l)) (hbt : Bts w ao m c d) (hap : Apart v ao m) (hbase : base ≤ w.heap.size) (hgB : 2 < base) (hn : n ≤ 1099511627776) (hm : m ≤ 2048) (hm1 : 1 ≤ m) :
    Calls Tryd.prog 15 #[v, .slice ao m c] w fun e w' => ∃ v', e = .returned v' ∧ w'.ownsRow base 5 1 v' (n + (ckL d).length) (bv (l ++ ckL d)) ∧ Kept (fun k => v.ownBlock = some k) w w' ∧ Lies v v' w.heap.size := by
  have HC := Bx.mk (appint_16 m base n v l w (by omega) hB hown hbase hn)
  have hdl := hbt.len_eq
  have hh3 := (hexN_len m).2 (by omega)
  obtain ⟨hx, HHX⟩ : ∃ h, Bx (h = hexN m) := ⟨_, ⟨rfl⟩⟩
  rw [← HHX.out] at HC hh3
  have HCK : Bx (ckL d = hx ++ ([13, 10] ++ (d ++ [13, 10]))) := ⟨by unfold ckL; rw [hdl, HHX.out]⟩
  obtain ⟨q, hq⟩ : ∃ q, hx.length = q := ⟨_, rfl⟩
  rw [hq] at HC hh3
  have HQ := Bx.mk hq
  have HBT := Bx.mk hbt
  have HAP := Bx.mk hap
  have HDL := Bx.mk hdl
  clear hB hown hbt hap hdl hq HHX
  go_enter Tryd.func15, Tryd.ntmps15
  go_wp2_with fail
  refine HC.out.mono ?_
  rintro e w1 ⟨v1, rfl, ho1, hk1, hl1⟩
  have HO1 := Bx.mk ho1
  have HK1 := Bx.mk hk1
  have HL1 := Bx.mk hl1
  have HS1 : Bx (base ≤ w1.heap.size) := ⟨Nat.le_trans hbase hk1.size⟩
  have HB1 := Bx.mk (HBT.out.apart hk1 HAP.out)
  have HA1 := Bx.mk (HAP.out.lies HBT.out hl1)
  clear ho1 hk1 hl1 HC
  go_wp2_with (first
    | (at_builtin; refine wpList_append_str rfl (.tmp 9) (.const (.string crlf)) rfl base (n + q) v1 (l ++ hx) rfl HO1.out crlf rfl (by decide) (by rw [crlf_s]; omega) HS1.out ?_; intro v2 w2 ho2 hk2 hl2; rw [crlf_l, crlf_s] at ho2; have HO2 := Bx.mk ho2; have HK2 := Bx.mk (HK1.out.lies hk2 HL1.out); have HL2 := Bx.mk (HL1.out.trans hl2 HK1.out.size); have HB2 := Bx.mk (HB1.out.apart hk2 HA1.out); have HA2 := Bx.mk (HA1.out.lies HB1.out hl2); have HS2 : Bx (base ≤ w2.heap.size) := ⟨Nat.le_trans HS1.out hk2.size⟩; clear ho2 hk2 hl2)
    | (at_builtin; refine wpList_append_btsL rfl (.tmp 11) (.tmp 12) rfl base (n + q + 2) v2 (l ++ hx ++ [13, 10]) rfl HO2.out ao m c d rfl HB2.out (.inr (by omega)) (by omega) HS2.out ?_; intro v3 w3 ho3 hk3 hl3; have HO3 := Bx.mk ho3; have HK3 := Bx.mk (HK2.out.lies hk3 HL2.out); have HL3 := Bx.mk (HL2.out.trans hl3 HK2.out.size); have HS3 : Bx (base ≤ w3.heap.size) := ⟨Nat.le_trans HS2.out hk3.size⟩; clear ho3 hk3 hl3)
    | (at_builtin; refine wpList_append_str rfl (.tmp 14) (.const (.string crlf)) rfl base (n + q + 2 + m) v3 (l ++ hx ++ [13, 10] ++ d) rfl HO3.out crlf rfl (by decide) (by rw [crlf_s]; omega) HS3.out ?_; intro v4 w4 ho4 hk4 hl4; rw [crlf_l, crlf_s] at ho4; have HO4 := Bx.mk ho4; have HK4 := Bx.mk (HK3.out.lies hk4 HL3.out); have HL4 := Bx.mk (HL3.out.trans hl4 HK3.out.size); clear ho4 hk4 hl4))
  go_ret
  have e1 : (ckL d).length = q + 2 + m + 2 := by rw [HCK.out]; simp only [List.length_append, List.length_cons, List.length_nil, HQ.out, HDL.out]; omega
  have e3 : n + (q + 2 + m + 2) = n + q + 2 + m + 2 := by omega
  have e2 : l ++ ckL d = l ++ hx ++ [13, 10] ++ d ++ [13, 10] := by rw [HCK.out]; simp
  exact ⟨v4, rfl, by rw [e1, e2, e3]; exact HO4.out, HK4.out, HL4.out⟩
end Go.Proofs.YtjlclgmbenhakaaDoor
