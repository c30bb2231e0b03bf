/- What the document's token functions answer. -/
import Derived.Test.YtdoedkgidcoibaaDoorOpen
import Derived.Test.YtdoedkgidcoibaaDoorRefHmac
import Derived.Test.YtdoedkgidcoibaaDoorRefHex
import Derived.Test.YtdoedkgidcoibaaDoorRefDec
namespace Go.Proofs.YtdoedkgidcoibaaDoor
open Go.RowKit
set_option linter.unusedVariables false

set_option maxRecDepth 100000 in
set_option maxHeartbeats 1000000 in
theorem reftext_any (a : Option Addr) (len cap : Nat) (k : List Int) (n : ByteArray) (v : Int) (w : World) (hk : Bts w a len cap k) (hlen : len ≤ 300) (hn : n.size ≤ 300) (h0 : -9223372036854775808 ≤ v) (h1 : v ≤ 9223372036854775807) :
    Calls Tryd.prog 22 #[.slice a len cap, .string n, .int .i64 v] w fun e w' => e = .returned (.string (tokB k n v)) ∧ Below w.heap.size w w' := by
  have hz := decS_size h0 h1
  have HD : Hid (∀ w', Calls Tryd.prog 32 #[.int .i64 v] w' fun e w'' => e = .returned (.string (decS v)) ∧ w'' = w') := fun w' => refdec_any v.natAbs v w' (Nat.le_refl _) h0 h1
  have HC : Bx (n ++ ⟨#[46]⟩ ++ decS v = claimB n v) := ⟨rfl⟩
  have hcz : (claimB n v).size ≤ 400 := by rw [claim_size]; omega
  have HT : Bx (claimB n v ++ ⟨#[46]⟩ ++ strOf (hexL (macL k (strL (claimB n v)))) = tokB k n v) := ⟨rfl⟩
  have hcv := Lib.run_convert_string_bytes (P := Tryd.prog) w 9 22 5 (claimB n v) Tryd.underlying9 Tryd.underlying22 Tryd.underlying5
  have hb2 := bytes_low w 5 (claimB n v)
  have ht2 := bytes_bts w (claimB n v) (by unfold maxLen; omega)
  generalize Lib.bytesWorld w 5 (claimB n v) = w2 at hcv hb2 ht2
  generalize grownCap w (claimB n v).size 0 5 = cp at hcv ht2
  have hL : ∃ L, L = (claimB n v).size := ⟨_, rfl⟩
  obtain ⟨L, hL⟩ := hL
  rw [← hL] at hcv ht2
  rw [← HC.out] at hcv
  have hLz : L ≤ 400 := by omega
  have hk2 := hk.below hb2
  clear hk hL
  generalize decS v = D at hz HD HC hcv
  generalize claimB n v = S at hcz HT HC ht2
  have k1 : ¬ 9223372036854775807 < n.size + 1 := by omega
  have k2 : ¬ 9223372036854775807 ≤ n.size := by omega
  have k3 : ¬ 9223372036854775807 < n.size + 1 + D.size := by omega
  go_enter Tryd.func22, Tryd.ntmps22
  go_wp2_with fail
  refine (HD.out _).mono ?_
  rintro e wz ⟨rfl, hwz⟩
  obtain rfl : w = wz := hwz.symm
  clear hwz
  go_wp2_with fail
  refine (refmac_any a _ len L cap cp k (strL S) _ hk2 ht2 (by omega) (by omega)).mono ?_
  rintro e w3 ⟨rfl, hb3⟩
  rw [HC.out]
  replace hb3 := bstep hb2 hb3
  have hml := macL_len k (strL S)
  have hmb := macL_byt k (strL S)
  generalize macL k (strL S) = m at hml hmb HT ⊢
  clear hcv hk2 ht2 hb2 HC HD
  generalize hDD : (bv m).toArray = DD
  obtain ⟨hdv, hth, hinf, hone⟩ := dig_var w3 m hml DD hDD.symm
  have HTH : Bx ((w3.alloc (.cells #[.int .u8 0, .int .u8 0, .int .u8 0, .int .u8 0, .int .u8 0, .int .u8 0, .int .u8 0, .int .u8 0, .int .u8 0, .int .u8 0, .int .u8 0, .int .u8 0, .int .u8 0, .int .u8 0, .int .u8 0, .int .u8 0, .int .u8 0, .int .u8 0, .int .u8 0, .int .u8 0, .int .u8 0, .int .u8 0, .int .u8 0, .int .u8 0, .int .u8 0, .int .u8 0, .int .u8 0, .int .u8 0, .int .u8 0, .int .u8 0, .int .u8 0, .int .u8 0] 50)).there w3.heap.size 0 DD.size) := ⟨hth⟩
  have HDV : Bx (DV w3 ((w3.alloc (.cells #[.int .u8 0, .int .u8 0, .int .u8 0, .int .u8 0, .int .u8 0, .int .u8 0, .int .u8 0, .int .u8 0, .int .u8 0, .int .u8 0, .int .u8 0, .int .u8 0, .int .u8 0, .int .u8 0, .int .u8 0, .int .u8 0, .int .u8 0, .int .u8 0, .int .u8 0, .int .u8 0, .int .u8 0, .int .u8 0, .int .u8 0, .int .u8 0, .int .u8 0, .int .u8 0, .int .u8 0, .int .u8 0, .int .u8 0, .int .u8 0, .int .u8 0, .int .u8 0] 50)).setCells w3.heap.size 0 DD.toList) m) := ⟨hdv⟩
  have HINF : Bx ((Tryd.prog.info? 50).map (·.size) = some DD.size) := ⟨hinf⟩
  have HONE : Bx (DD.all (·.oneCell') = true) := ⟨hone⟩
  have hda := dig_all w3.heap.size
  have k4 : ¬ 9223372036854775807 < S.size + 1 := by omega
  have k5 : ¬ 9223372036854775807 ≤ S.size := by omega
  clear hdv hth hinf hone hDD k1 k2 k3
  go_wp2_with (refine wpList_store_mid rfl 50 (.tmp 8) (.tmp 17) rfl w3.heap.size 0 DD rfl rfl HTH.out HINF.out HONE.out ?_; have hdv := HDV.out; generalize (w3.alloc (.cells #[.int .u8 0, .int .u8 0, .int .u8 0, .int .u8 0, .int .u8 0, .int .u8 0, .int .u8 0, .int .u8 0, .int .u8 0, .int .u8 0, .int .u8 0, .int .u8 0, .int .u8 0, .int .u8 0, .int .u8 0, .int .u8 0, .int .u8 0, .int .u8 0, .int .u8 0, .int .u8 0, .int .u8 0, .int .u8 0, .int .u8 0, .int .u8 0, .int .u8 0, .int .u8 0, .int .u8 0, .int .u8 0, .int .u8 0, .int .u8 0, .int .u8 0, .int .u8 0] 50)).setCells w3.heap.size 0 DD.toList = w4 at hdv ⊢; clear HDV HTH)
  have hm4 := hdv.bts hmb hml
  have hb4 := bstep hb3 hdv.low
  refine (refhex_any _ _ _ m _ hm4 (by decide)).mono ?_
  rintro e w5 ⟨rfl, q5, hq5⟩
  have hb5 : Below w.heap.size w w5 := by rw [hq5]; exact below_drewN hb4 q5
  have hxz : (strOf (hexL m)).size = 64 := by rw [strOf_size, hexL_length, hml]
  generalize strOf (hexL m) = X at hxz HT ⊢
  clear hb3 hb4 hm4 hda hdv hml hmb HINF HONE hq5
  have k6 : ¬ 9223372036854775807 < S.size + 1 + X.size := by omega
  go_wp2_with fail
  go_ret
  exact ⟨ret_str HT.out, hb5⟩
set_option maxRecDepth 100000 in
set_option maxHeartbeats 1000000 in
theorem refmint_any (a : Option Addr) (len cap : Nat) (k : List Int) (n : ByteArray) (v : Int) (w : World) (hk : Bts w a len cap k) (hlen : len ≤ 300) (hn : n.size ≤ 300) (h0 : -9223372036854775808 ≤ v) (h1 : v ≤ 9223372036854775807) :
    Calls Tryd.prog 13 #[.slice a len cap, .string n, .int .i64 v] w fun e w' => e = .returned (.tuple #[.string (mintS k n v), .int .i64 (mintE n v)]) ∧ Below w.heap.size w w' := by
  go_enter Tryd.func13, Tryd.ntmps13
  go_wp2_with fail
  refine (refname_any n _ (by omega)).mono ?_
  rintro e wz ⟨rfl, hwz⟩
  obtain rfl : w = wz := hwz.symm
  clear hwz
  cases hN : nameB n with
  | false =>
    have HN : Hid (mOk n v = false) := by show _ = _; unfold mOk; rw [hN]; rfl
    clear hN
    go_wp2_with fail
    go_ret2
    exact ⟨ret_mint (mint_no HN.out).1 (mint_no (k := k) HN.out).2, Below.refl _ _⟩
  | true =>
    by_cases hlo : v < 0
    · have HN : Hid (mOk n v = false) := by show _ = _; unfold mOk tmB; rw [hN]; simp; omega
      have g1 : decide (v < 0) = true := by simpa using hlo
      clear hN
      go_wp2_with fail
      go_ret2
      exact ⟨ret_mint (mint_no HN.out).1 (mint_no (k := k) HN.out).2, Below.refl _ _⟩
    · have g1 : decide (v < 0) = false := by simpa using hlo
      by_cases hhi : 1099511627776 < v
      · have HN : Hid (mOk n v = false) := by show _ = _; unfold mOk tmB; rw [hN]; simp; omega
        have g2 : decide (1099511627776 < v) = true := by simpa using hhi
        clear hN
        go_wp2_with fail
        go_ret2
        exact ⟨ret_mint (mint_no HN.out).1 (mint_no (k := k) HN.out).2, Below.refl _ _⟩
      · have HN : Hid (mOk n v = true) := by show _ = _; unfold mOk tmB; rw [hN]; simp; omega
        have g2 : decide (1099511627776 < v) = false := by simp; omega
        clear hN
        go_wp2_with fail
        refine (reftext_any a len cap k n v _ hk hlen hn h0 h1).mono ?_
        rintro e w1 ⟨rfl, hb1⟩
        generalize hT : tokB k n v = T
        have HT : Hid (T = mintS k n v) := by show _ = _; rw [(mint_yes HN.out).1, hT]
        clear hT
        go_wp2_with fail
        go_ret2
        exact ⟨ret_mint HT.out (mint_yes (k := k) HN.out).2.symm, hb1⟩
end Go.Proofs.YtdoedkgidcoibaaDoor
