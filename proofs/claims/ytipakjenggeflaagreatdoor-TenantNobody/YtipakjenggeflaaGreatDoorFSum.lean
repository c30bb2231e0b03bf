/- The sum's register as the walk has it; what Sum answers, the program's and the document's. -/
import Derived.Test.YtipakjenggeflaaGreatDoorPkaa
import Derived.Laws.BitsAllLaws
namespace Go.Proofs.YtipakjenggeflaaGreatDoor
open Go.RowKit
set_option linter.unusedVariables false

set_option maxRecDepth 100000 in
theorem crT_nat (c : BitVec 32) : (crT c).toNat = (c.toNat / 2) ^^^ (if c.toNat % 2 = 1 then 3988292384 else 0) := by
  unfold crT
  have h0 : c.getLsbD 0 = decide (c.toNat % 2 = 1) := by
    rw [BitVec.getLsbD, Nat.testBit_zero]
  rw [BitVec.toNat_xor, BitVec.toNat_ushiftRight, Nat.shiftRight_eq_div_pow, h0]
  by_cases h : c.toNat % 2 = 1
  · rw [decide_eq_true h, if_pos rfl, if_pos h]; rfl
  · rw [decide_eq_false h, if_neg (by decide), if_neg h]; rfl
set_option maxRecDepth 100000 in
theorem crT_even (c : BitVec 32) (h : c.toNat % 2 = 0) : ((crT c).toNat : Int) = (c.toNat : Int) / 2 := by
  rw [crT_nat, if_neg (by omega), Nat.xor_zero]; omega
set_option maxRecDepth 100000 in
theorem crT_odd (c : BitVec 32) (h : c.toNat % 2 = 1) : ((crT c).toNat : Int) = bits .xor .u32 ((c.toNat : Int) / 2) 3988292384 := by
  have hl := c.isLt
  rw [crT_nat, if_pos h, show ((c.toNat : Int) / 2) = ((c.toNat / 2 : Nat) : Int) from by omega]
  exact (u32_xor_nat (c.toNat / 2) 3988292384 (by omega) (by decide)).symm
set_option maxRecDepth 100000 in
theorem and_one (x : Int) (h0 : 0 ≤ x) (h1 : x ≤ 4294967295) : bits .and .u32 x 1 = x % 2 := by
  rw [u32_and x 1 h0 (by omega) (by decide) (by decide)]
  show ((x.toNat &&& 1 : Nat) : Int) = _
  rw [Nat.and_one_is_mod]; omega
set_option maxRecDepth 100000 in
theorem xor_byte (d : BitVec 32) (C : Int) (h : 0 ≤ C ∧ C ≤ 255) : bits .xor .u32 (d.toNat : Int) C = ((d ^^^ BitVec.ofNat 32 C.toNat).toNat : Int) := by
  have hl := d.isLt
  rw [u32_xor _ _ (by omega) (by omega) h.1 (by omega), BitVec.toNat_xor, BitVec.toNat_ofNat, Nat.mod_eq_of_lt (by omega)]; rfl
set_option maxRecDepth 100000 in
theorem ones_xor (d : BitVec 32) : bits .xor .u32 4294967295 (d.toNat : Int) = ((d ^^^ crO).toNat : Int) := by
  have hl := d.isLt
  rw [u32_xor _ _ (by decide) (by decide) (by omega) (by omega), BitVec.xor_comm, BitVec.toNat_xor]; rfl
set_option maxRecDepth 100000 in
theorem crcS_step (d : BitVec 32) (l : List Int) (k : Nat) (h : k < l.length) : crcS d (l.drop k) = crcS (crN 8 (d ^^^ BitVec.ofNat 32 (l.getD k 0).toNat)) (l.drop (k + 1)) := by
  have e : l.drop k = l.getD k 0 :: l.drop (k + 1) := by rw [List.getD_eq_getElem?_getD, List.getElem?_eq_getElem h]; exact List.drop_eq_getElem_cons h
  rw [e]; rfl
set_option maxRecDepth 100000 in
theorem crN_step (j : Nat) (e : BitVec 32) (h : j < 8) : crN (8 - j) e = crN (8 - (j + 1)) (crT e) := by
  rw [show 8 - j = 8 - (j + 1) + 1 from by omega]; rfl
set_option maxRecDepth 100000 in
theorem crO_int : ((crO.toNat : Nat) : Int) = 4294967295 := by decide
set_option maxRecDepth 100000 in
set_option maxHeartbeats 1000000 in
theorem crc_any (a : Option Addr) (len cap : Nat) (l : List Int) (w : World) (h : Bts w a len cap l) :
    Calls Tryz.prog 337 #[.slice a len cap] w fun e w' => e = .returned (.int .u32 (crcN l : Int)) ∧ w = w' := by
  have hl : Hid (l.length = len) := h.len_eq
  have hm := Nat.le_trans h.le_cap h.cap_le
  unfold maxLen at hm
  have HB : Hid (Byt l) := h.byt
  go_enter Tryz.func337, Tryz.ntmps337
  go_wp2
  go_loop [3, 8] (fun v i => ∃ (k : Nat) (d : BitVec 32), k ≤ len ∧ i = .int .i64 k ∧ v = .int .u32 (d.toNat : Int) ∧ crcS d (l.drop k) = crcS crO l) (fun _ i => len - (intOf i).toNat)
  case atStart => exact ⟨0, crO, Nat.zero_le _, rfl, by rw [crO_int], rfl⟩
  case round =>
    obtain ⟨k, d, hk, rfl, rfl, he⟩ := hrel
    have HE : Hid (crcS d (l.drop k) = crcS crO l) := he
    clear he
    by_cases hlt : k < len
    · obtain ⟨b, off, rfl, _, hc⟩ := h.spot (by omega)
      have hcell := hc k hlt
      have hbd := HB.out.getD k
      have HS : Hid (crcS (crN 8 (d ^^^ BitVec.ofNat 32 (l.getD k 0).toNat)) (l.drop (k + 1)) = crcS crO l) := by
        show _ = _
        rw [← crcS_step d l k (by rw [hl.out]; exact hlt)]; exact HE.out
      have hx := xor_byte d (l.getD k 0) hbd
      generalize l.getD k 0 = C at hcell hbd HS hx
      generalize hf : d ^^^ BitVec.ofNat 32 C.toNat = f at HS hx
      have hd := d.isLt
      generalize hD : (d.toNat : Int) = D at hx ⊢
      have hDb : 0 ≤ D ∧ D ≤ 4294967295 := by omega
      generalize hF : (f.toNat : Int) = F at hx
      have HF : Hid (F = (f.toNat : Int)) := hF.symm
      clear hc hf hF hD hd HE
      go_wp2
      go_loop [3, 16] (fun v i => ∃ (j : Nat) (e : BitVec 32), j ≤ 8 ∧ i = .int .i64 j ∧ v = .int .u32 (e.toNat : Int) ∧ crN (8 - j) e = crN 8 f) (fun _ i => 8 - (intOf i).toNat)
      case atStart => exact ⟨0, f, Nat.zero_le _, rfl, by rw [HF.out], rfl⟩
      case round =>
        clear HF hx
        obtain ⟨j, e, hj, rfl, rfl, he⟩ := hrel
        have HE : Hid (crN (8 - j) e = crN 8 f) := he
        clear he
        have hle := e.isLt
        generalize hY : (e.toNat : Int) = Y
        have HY : Hid ((e.toNat : Int) = Y) := hY
        have hb : 0 ≤ Y ∧ Y ≤ 4294967295 := by omega
        by_cases h8 : j < 8
        · have h8' : (j : Int) < 8 := by omega
          have ha := and_one Y hb.1 hb.2
          by_cases hp : e.toNat % 2 = 1
          · have h1 : Y % 2 = 1 := by omega
            rw [h1] at ha
            have HT : Hid (((crT e).toNat : Int) = bits .xor .u32 (Y / 2) 3988292384) := by rw [← HY.out]; exact crT_odd e hp
            generalize hZ : bits .xor .u32 (Y / 2) 3988292384 = Z at HT
            clear hY hle hp h1
            go_wp2
            go_round
            case rel => exact ⟨j + 1, crT e, by omega, by go_num, by rw [HT.out], by rw [← crN_step j e h8]; exact HE.out⟩
            case measure => simp [intOf]; omega
          · have h1 : Y % 2 = 0 := by omega
            rw [h1] at ha
            have HT : Hid (((crT e).toNat : Int) = Y / 2) := by rw [← HY.out]; exact crT_even e (by omega)
            have hZ : bits .xor .u32 (Y / 2) 0 = Y / 2 := by
              rw [u32_xor _ _ (by omega) (by omega) (by decide) (by decide)]
              show (((Y / 2).toNat ^^^ 0 : Nat) : Int) = _
              rw [Nat.xor_zero]; omega
            clear hY hle hp h1
            go_wp2
            go_round
            case rel => exact ⟨j + 1, crT e, by omega, by go_num, by rw [HT.out], by rw [← crN_step j e h8]; exact HE.out⟩
            case measure => simp [intOf]; omega
        · obtain rfl : j = 8 := by omega
          have HN : Hid (e = crN 8 f) := HE.out
          clear hY hle
          go_wp2
          go_round
          case rel => exact ⟨k + 1, e, by omega, by go_num, by rw [HY.out], by rw [HN.out]; exact HS.out⟩
          case measure => simp [intOf]; omega
    · have HT : Hid (((d ^^^ crO).toNat : Int) = (crcN l : Int)) := by
        have := HE.out
        rw [List.drop_of_length_le (by rw [hl.out]; omega)] at this
        show _ = ((crcS crO l ^^^ crO).toNat : Int)
        rw [← this]; rfl
      have hx := ones_xor d
      have hx2 : bits .xor .u32 (if IntKind.u32.signed = true then -1 else IntKind.u32.max) (d.toNat : Int) = ((d ^^^ crO).toNat : Int) := hx
      have hd := d.isLt
      generalize hF : ((d ^^^ crO).toNat : Int) = F at hx hx2 HT
      generalize hD : (d.toNat : Int) = D at hx hx2 ⊢
      have hDb : 0 ≤ D ∧ D ≤ 4294967295 := by omega
      clear hF hD hd HE
      go_wp2
      go_ret
      exact ⟨ret_int HT.out, rfl⟩
end Go.Proofs.YtipakjenggeflaaGreatDoor
