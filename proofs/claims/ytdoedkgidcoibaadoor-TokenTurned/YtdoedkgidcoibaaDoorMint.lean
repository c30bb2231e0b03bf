/- What Mint answers. -/
import Derived.Test.YtdoedkgidcoibaaDoorClaim
import Derived.Test.YtdoedkgidcoibaaDoorName
import Derived.Test.YtdoedkgidcoibaaDoorHex
import Derived.Test.YtdoedkgidcoibaaDoorMacCheck
import Derived.Test.YtdoedkgidcoibaaDoorSDoor
namespace Go.Proofs.YtdoedkgidcoibaaDoor
open Go.RowKit
set_option linter.unusedVariables false

/-- the sum of what is signed -/
def mkS (k : List Int) (n : ByteArray) (v : Int) : List Int := macL k (strL (claimB n v))
/-- the token -/
def tokB (k : List Int) (n : ByteArray) (v : Int) : ByteArray := formB n v (mkS k n v)
def mOk (n : ByteArray) (v : Int) : Bool := nameB n && tmB v
/-- what Mint answers: the token and 0, or no text and 2 -/
def mintS (k : List Int) (n : ByteArray) (v : Int) : ByteArray := if mOk n v then tokB k n v else ⟨#[]⟩
def mintE (n : ByteArray) (v : Int) : Int := if mOk n v then 0 else 2
theorem mOk_iff (n : ByteArray) (v : Int) : mOk n v = true ↔ NameP n ∧ 0 ≤ v ∧ v ≤ 1099511627776 := by
  unfold mOk; rw [Bool.and_eq_true, nameB_iff, tmB_iff]
theorem mkS_len (k : List Int) (n : ByteArray) (v : Int) : (mkS k n v).length = 32 := macL_len _ _
theorem mkS_byt (k : List Int) (n : ByteArray) (v : Int) : Byt (mkS k n v) := macL_byt _ _
theorem mOk_says {n : ByteArray} {v : Int} (h : mOk n v = true) (k : List Int) : Says n v (mkS k n v) := by
  obtain ⟨h1, h2, h3⟩ := (mOk_iff n v).1 h
  exact ⟨h1, h2, h3, mkS_len _ _ _, mkS_byt _ _ _⟩
/-- what the calls want of memory: the table of addends, the table of tens -/
structure Lay (w : World) : Prop where
  tab : Tab w
  tens : Tens w
theorem Lay.below {w w' : World} (h : Lay w) (hb : Below w.heap.size w w') : Lay w' := ⟨h.tab.below hb, h.tens.below hb⟩
theorem Lay.drewN {w : World} (h : Lay w) (q : Nat) : Lay (w.drewN q) := ⟨h.tab.drewN q, h.tens.drewN q⟩
theorem ret_mint {k : List Int} {n S : ByteArray} {v : Int} {x : Int} (h1 : S = mintS k n v) (h2 : x = mintE n v) : Ending.returned (.tuple #[.string S, .int .i64 x]) = .returned (.tuple #[.string (mintS k n v), .int .i64 (mintE n v)]) := by rw [h1, h2]
theorem mint_no {k : List Int} {n : ByteArray} {v : Int} (h : mOk n v = false) : ⟨#[]⟩ = mintS k n v ∧ 2 = mintE n v := by
  unfold mintS mintE; rw [h]; exact ⟨rfl, rfl⟩
theorem mint_yes {k : List Int} {n : ByteArray} {v : Int} (h : mOk n v = true) : mintS k n v = tokB k n v ∧ mintE n v = 0 := by
  unfold mintS mintE; rw [h]; exact ⟨rfl, rfl⟩
set_option maxRecDepth 100000 in
set_option maxHeartbeats 1000000 in
theorem mint_any (a : Option Addr) (len cap : Nat) (k : List Int) (n : ByteArray) (v : Int) (w : World) (hk : Bts w a len cap k) (hlen : len ≤ 300) (hn : n.size ≤ 300) (h0 : -9223372036854775808 ≤ v) (h1 : v ≤ 9223372036854775807) (hl : Lay w) :
    Calls Tryd.prog 12 #[.slice a len cap, .string n, .int .i64 v] w fun e w' => e = .returned (.tuple #[.string (mintS k n v), .int .i64 (mintE n v)]) ∧ Below w.heap.size w w' := by
  go_enter Tryd.func12, Tryd.ntmps12
  go_wp2_with fail
  refine (name_any n _ (by omega)).mono ?_
  rintro e w' ⟨rfl, rfl⟩
  cases hN : nameB n with
  | false =>
    have HN : Hid (mOk n v = false) := by show _ = _; unfold mOk; rw [hN]; rfl
    clear hN
    go_wp2_with fail
    go_ret2
    exact ⟨ret_mint (mint_no HN.out).1 (mint_no (k := k) HN.out).2, Below.refl _ _⟩
  | true =>
    go_wp2_with fail
    refine (isTime_any v _).mono ?_
    rintro e w'' ⟨rfl, rfl⟩
    cases hT : tmB v with
    | false =>
      have HN : Hid (mOk n v = false) := by show _ = _; unfold mOk; rw [hN, hT]; rfl
      clear hN hT
      go_wp2_with fail
      go_ret2
      exact ⟨ret_mint (mint_no HN.out).1 (mint_no (k := k) HN.out).2, Below.refl _ _⟩
    | true =>
      have HN : Hid (mOk n v = true) := by show _ = _; unfold mOk; rw [hN, hT]; rfl
      clear hN hT
      go_wp2_with fail
      refine (claimText_any n v _ hn h0 h1 hl.tens).mono ?_
      rintro e w1 ⟨rfl, hb1⟩
      have hcz : (claimB n v).size ≤ 400 := by rw [claim_size]; have := decS_size h0 h1; omega
      have HT : Bx (claimB n v ++ ⟨#[46]⟩ ++ strOf (hexL (macL k (strL (claimB n v)))) = tokB k n v) := ⟨rfl⟩
      generalize claimB n v = S at hcz HT ⊢
      have hcv := Lib.run_convert_string_bytes (P := Tryd.prog) w1 9 22 5 S Tryd.underlying9 Tryd.underlying22 Tryd.underlying5
      have hb2 := bytes_low w1 5 S
      have ht2 := bytes_bts w1 S (by unfold maxLen; omega)
      generalize Lib.bytesWorld w1 5 S = w2 at hcv hb2 ht2
      generalize grownCap w1 S.size 0 5 = cp at hcv ht2
      have hk2 := (hk.below hb1).below hb2
      have hl2 := (hl.below hb1).below hb2
      replace hb2 := bstep hb1 hb2
      clear hk hl hb1
      go_wp2_with fail
      refine (mac_any a _ len S.size cap cp k (strL S) _ hk2 ht2 hl2.tab (by omega) (by omega)).mono ?_
      rintro e w3 ⟨rfl, hb3⟩
      replace hb3 := bstep hb2 hb3
      have hml := macL_len k (strL S)
      have hmb := macL_byt k (strL S)
      generalize macL k (strL S) = m at hml hmb HT ⊢
      clear hcv hk2 hl2 ht2 hb2
      generalize hDD : (bv m).toArray = D
      obtain ⟨hdv, hth, hinf, hone⟩ := dig_var w3 m hml D hDD.symm
      have HTH : Bx ((w3.alloc (.cells #[.int .u8 0, .int .u8 0, .int .u8 0, .int .u8 0, .int .u8 0, .int .u8 0, .int .u8 0, .int .u8 0, .int .u8 0, .int .u8 0, .int .u8 0, .int .u8 0, .int .u8 0, .int .u8 0, .int .u8 0, .int .u8 0, .int .u8 0, .int .u8 0, .int .u8 0, .int .u8 0, .int .u8 0, .int .u8 0, .int .u8 0, .int .u8 0, .int .u8 0, .int .u8 0, .int .u8 0, .int .u8 0, .int .u8 0, .int .u8 0, .int .u8 0, .int .u8 0] 50)).there w3.heap.size 0 D.size) := ⟨hth⟩
      have HDV : Bx (DV w3 ((w3.alloc (.cells #[.int .u8 0, .int .u8 0, .int .u8 0, .int .u8 0, .int .u8 0, .int .u8 0, .int .u8 0, .int .u8 0, .int .u8 0, .int .u8 0, .int .u8 0, .int .u8 0, .int .u8 0, .int .u8 0, .int .u8 0, .int .u8 0, .int .u8 0, .int .u8 0, .int .u8 0, .int .u8 0, .int .u8 0, .int .u8 0, .int .u8 0, .int .u8 0, .int .u8 0, .int .u8 0, .int .u8 0, .int .u8 0, .int .u8 0, .int .u8 0, .int .u8 0, .int .u8 0] 50)).setCells w3.heap.size 0 D.toList) m) := ⟨hdv⟩
      have HINF : Bx ((Tryd.prog.info? 50).map (·.size) = some D.size) := ⟨hinf⟩
      have HONE : Bx (D.all (·.oneCell') = true) := ⟨hone⟩
      have hda := dig_all w3.heap.size
      have k1 : ¬ 9223372036854775807 < S.size + 1 := by omega
      have k2 : ¬ 9223372036854775807 ≤ S.size := by omega
      clear hdv hth hinf hone hDD
      go_wp2_with (refine wpList_store_mid rfl 50 (.tmp 9) (.tmp 25) rfl w3.heap.size 0 D rfl rfl HTH.out HINF.out HONE.out ?_; have hdv := HDV.out; generalize (w3.alloc (.cells #[.int .u8 0, .int .u8 0, .int .u8 0, .int .u8 0, .int .u8 0, .int .u8 0, .int .u8 0, .int .u8 0, .int .u8 0, .int .u8 0, .int .u8 0, .int .u8 0, .int .u8 0, .int .u8 0, .int .u8 0, .int .u8 0, .int .u8 0, .int .u8 0, .int .u8 0, .int .u8 0, .int .u8 0, .int .u8 0, .int .u8 0, .int .u8 0, .int .u8 0, .int .u8 0, .int .u8 0, .int .u8 0, .int .u8 0, .int .u8 0, .int .u8 0, .int .u8 0] 50)).setCells w3.heap.size 0 D.toList = w4 at hdv ⊢; clear HDV HTH)
      have hm4 := hdv.bts hmb hml
      have hb4 := bstep hb3 hdv.low
      refine (hex_any _ _ _ m _ hm4 (by decide)).mono ?_
      rintro e w5 ⟨rfl, hb5⟩
      replace hb5 := bstep hb4 hb5
      have hxz : (strOf (hexL m)).size = 64 := by rw [strOf_size, hexL_length, hml]
      generalize strOf (hexL m) = X at hxz HT ⊢
      clear hb3 hb4 hm4 hda hdv hml hmb HINF HONE
      have k3 : ¬ 9223372036854775807 < S.size + 1 + X.size := by omega
      go_wp2_with fail
      go_ret2
      exact ⟨ret_mint (by rw [(mint_yes HN.out).1]; exact HT.out) (mint_yes (k := k) HN.out).2.symm, hb5⟩
end Go.Proofs.YtdoedkgidcoibaaDoor
