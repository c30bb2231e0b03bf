/- The document's own chunks: counts, two, sized. The document's own sized. The document's own Whole. -/
import Derived.Test.YtdameoejigpnhaaGreatDoorWra
import Derived.Test.YtdameoejigpnhaaGreatDoorSlc
import Derived.Test.YtdameoejigpnhaaGreatDoorTBase
import Derived.Test.YtdameoejigpnhaaGreatDoorChunkWhole
namespace Go.Proofs.YtdameoejigpnhaaGreatDoor
open Go.RowKit
set_option linter.unusedVariables false

/-- the digits -/
def hexC : ByteArray := ⟨#[48, 49, 50, 51, 52, 53, 54, 55, 56, 57, 97, 98, 99, 100, 101, 102]⟩
set_option maxRecDepth 100000 in
theorem hexC_dgt : ∀ k, k < 16 → dgt (sb hexC k) = k := by decide
set_option maxRecDepth 100000 in
theorem dgt_hexC {b : Int} (h : dgt b ≠ 16) : sb hexC (dgt b) = b := by
  unfold dgt at h ⊢
  split
  · rename_i h1
    obtain ⟨n, rfl⟩ : ∃ n : Nat, b = (n : Int) := ⟨b.toNat, by omega⟩
    have : ∀ n : Nat, n < 58 → 48 ≤ n → sb hexC ((n : Int) - 48).toNat = (n : Int) := by decide
    exact this n (by omega) (by omega)
  · rename_i h1
    split
    · rename_i h2
      obtain ⟨n, rfl⟩ : ∃ n : Nat, b = (n : Int) := ⟨b.toNat, by omega⟩
      have : ∀ n : Nat, n < 103 → 97 ≤ n → sb hexC ((n : Int) - 87).toNat = (n : Int) := by decide
      exact this n (by omega) (by omega)
    · rename_i h2
      rw [if_neg h1, if_neg h2] at h; exact absurd rfl h
set_option maxRecDepth 100000 in
theorem idx_const (s : ByteArray) (j : Nat) (hj : j < s.size) (S : Value) (hS : Value.string s = S) : ∀ w, (Instr.index 9 S (.int .i64 (j : Int))).run Tryz.prog w = .ok (.int .u8 (sb s j)) w := by
  intro w
  subst hS
  have hb : s[j]? = some (s[j]'hj) := getElem?_pos s j hj
  simp only [Instr.index, asIntOf, go_sem, part]
  simp [Tryz.underlying9, underlying, hb]
  exact sb_eq s j hj
set_option maxHeartbeats 400000 in
theorem counts_any (b : Int) (w : World) (h : 0 ≤ b ∧ b ≤ 255) :
    Calls Tryz.prog 61 #[.int .u8 b] w fun e w' => e = .returned (.int .i64 (dgt b : Int)) ∧ w = w' := by
  have hdl := dgt_le b
  have HD : Bx (∀ k, k < 16 → (sb hexC k = b ↔ k = dgt b)) := ⟨fun k hk => ⟨fun e => by rw [← e, hexC_dgt k hk], fun e => by rw [e]; exact dgt_hexC (by omega)⟩⟩
  go_enter Tryz.func61, Tryz.ntmps61
  generalize hS : Value.string _ = SV
  have HIX : Bx (∀ k : Nat, k < 16 → ∀ w, (Instr.index 9 SV (.int .i64 (k : Int))).run Tryz.prog w = .ok (.int .u8 (sb hexC k)) w) := ⟨fun k hk => idx_const hexC k hk SV hS⟩
  clear hS
  obtain ⟨d, HDE⟩ : ∃ d, Bx (d = dgt b) := ⟨_, ⟨rfl⟩⟩
  rw [← HDE.out] at HD hdl
  go_wp2
  go_loop [3] (fun i => ∃ k : Nat, k ≤ d ∧ i = .int .i64 k) (fun i => 16 - (intOf i).toNat)
  case atStart => exact ⟨0, Nat.zero_le _, rfl⟩
  case round =>
    obtain ⟨k, hk, rfl⟩ := hrel
    by_cases h16 : k < 16
    · have hkI : (k : Int) < 16 := by omega
      have hix := HIX.out k h16
      by_cases he : k = d
      · have hq : (sb hexC k == b) = true := by simpa using (HD.out k h16).2 he
        have HE := Bx.mk he
        generalize sb hexC k = y at hix hq
        clear he
        go_wp2
        go_ret
        exact ⟨ret_int (by rw [HE.out, HDE.out]), rfl⟩
      · have hq : (sb hexC k == b) = false := by
          rw [beq_eq_false_iff_ne]; exact fun e => he ((HD.out k h16).1 e)
        generalize sb hexC k = y at hix hq
        go_wp2
        go_round
        case rel => exact ⟨k + 1, by omega, by go_num⟩
        case measure => simp [intOf]; omega
    · have hkI : ¬ (k : Int) < 16 := by omega
      have HE : Bx ((16 : Int) = (d : Int)) := ⟨by omega⟩
      go_wp2
      go_ret
      exact ⟨ret_int (by rw [HE.out, HDE.out]), rfl⟩
set_option maxHeartbeats 1000000 in
theorem two_any (a : Option Addr) (len cap : Nat) (l : List Int) (w : World) (h : Bts w a len cap l) :
    Calls Tryz.prog 53 #[.slice a len cap] w fun e w' => e = .returned (.int .i64 (twoR l)) ∧ w = w' := by
  have hl := h.len_eq
  have hm := Nat.le_trans h.le_cap h.cap_le
  unfold maxLen at hm
  match l, hl with
  | [], hl =>
    obtain rfl : len = 0 := hl.symm
    have HT : Bx (twoR [] = 3) := ⟨two_nil⟩
    clear h hl
    go_enter Tryz.func53, Tryz.ntmps53
    go_wp2
    go_ret
    exact ⟨ret_int HT.out.symm, rfl⟩
  | [x], hl =>
    obtain rfl : len = 1 := hl.symm
    obtain ⟨b, off, rfl, _, hc⟩ := h.spot (by decide)
    have c0 : w.cell? ⟨b, off, none⟩ = some (.int .u8 x) := hc 0 (by decide)
    have HT := Bx.mk (two_one x)
    clear h hl hc
    by_cases hx : x = 13
    · have hq : (x != 13) = false := by simpa using hx
      have HT2 : Bx (twoR [x] = 3) := ⟨by rw [HT.out, if_pos hx]⟩
      clear hx HT
      go_enter Tryz.func53, Tryz.ntmps53
      go_wp2
      go_ret
      exact ⟨ret_int HT2.out.symm, rfl⟩
    · have hq : (x != 13) = true := by simpa using hx
      have HT2 : Bx (twoR [x] = 4) := ⟨by rw [HT.out, if_neg hx]⟩
      clear hx HT
      go_enter Tryz.func53, Tryz.ntmps53
      go_wp2
      go_ret
      exact ⟨ret_int HT2.out.symm, rfl⟩
  | x :: y :: r, hl =>
    obtain ⟨b, off, rfl, _, hc⟩ := h.spot (by simp at hl; omega)
    have hl2 : 2 ≤ len := by simp at hl; omega
    have c0 : w.cell? ⟨b, off, none⟩ = some (.int .u8 x) := hc 0 (by omega)
    have c1 : w.cell? ⟨b, off + 1, none⟩ = some (.int .u8 y) := hc 1 (by omega)
    have g1 : decide ((len : Int) ≥ 1) = true := by simp; omega
    have g2 : decide ((len : Int) ≥ 2) = true := by simp; omega
    have g3 : decide ((len : Int) < 2) = false := by simp; omega
    have k1 : (1 : Int) < (len : Int) := by omega
    have k0 : (0 : Int) < (len : Int) := by omega
    have HT := Bx.mk (two_two x y r)
    clear h hl hc
    by_cases hx : x = 13
    · have hq : (x != 13) = false := by simpa using hx
      by_cases hy : y = 10
      · have hq2 : (y != 10) = false := by simpa using hy
        have HT2 : Bx (twoR (x :: y :: r) = 0) := ⟨by rw [HT.out, if_pos ⟨hx, hy⟩]⟩
        clear hx hy HT
        go_enter Tryz.func53, Tryz.ntmps53
        go_wp2
        go_ret
        exact ⟨ret_int HT2.out.symm, rfl⟩
      · have hq2 : (y != 10) = true := by simpa using hy
        have HT2 : Bx (twoR (x :: y :: r) = 4) := ⟨by rw [HT.out, if_neg (fun h => hy h.2)]⟩
        clear hx hy HT
        go_enter Tryz.func53, Tryz.ntmps53
        go_wp2
        go_ret
        exact ⟨ret_int HT2.out.symm, rfl⟩
    · have hq : (x != 13) = true := by simpa using hx
      have HT2 : Bx (twoR (x :: y :: r) = 4) := ⟨by rw [HT.out, if_neg (fun h => hx h.1)]⟩
      clear hx HT
      go_enter Tryz.func53, Tryz.ntmps53
      go_wp2
      go_ret
      exact ⟨ret_int HT2.out.symm, rfl⟩
end Go.Proofs.YtdameoejigpnhaaGreatDoor
namespace Go.Proofs.YtdameoejigpnhaaGreatDoor
open Go.RowKit
set_option linter.unusedVariables false

set_option maxRecDepth 100000 in
theorem drop_getD2 (l : List Int) (k : Nat) (h : k < l.length) : l.drop k = l.getD k 0 :: l.drop (k + 1) := by
  rw [List.getD_eq_getElem?_getD, List.getElem?_eq_getElem h]; exact List.drop_eq_getElem_cons h
set_option maxRecDepth 100000 in
set_option maxHeartbeats 1000000 in
theorem sized_any (a : Option Addr) (len cap : Nat) (l : List Int) (most : Int) (w : World) (h : Bts w a len cap l) (hs : len ≤ 1099511627776) (h0 : -1000000 ≤ most) (h2 : most ≤ 1000000) :
    Calls Tryz.prog 52 #[.slice a len cap, .int .i64 most] w fun e w' => e = .returned (.tuple #[.int .i64 ((szR most l 0 0).1 : Int), .int .i64 ((szR most l 0 0).2.1 : Int), .int .i64 (szR most l 0 0).2.2]) ∧ w = w' := by
  have hl : Hid (l.length = len) := h.len_eq
  have hm := Nat.le_trans h.le_cap h.cap_le
  unfold maxLen at hm
  have HBY : Hid (Byt l) := h.byt
  have H := Bx.mk h
  generalize hT : szR most l 0 0 = T
  have HT0 := Bx.mk hT
  clear h hT
  go_enter Tryz.func52, Tryz.ntmps52
  go_wp2
  go_loop [7, 8] (fun u i => ∃ (n c : Nat), c ≤ len ∧ i = .int .i64 c ∧ u = .int .i64 n ∧ (n : Int) ≤ 1000000 ∧ Bx (szR most (l.drop c) n c = T)) (fun _ i => len - (intOf i).toNat)
  case atStart => exact ⟨0, 0, Nat.zero_le _, rfl, rfl, by decide, HT0⟩
  case round =>
    clear HT0
    obtain ⟨n, c, hc, rfl, rfl, hn, HS⟩ := hrel
    by_cases hlt : c < len
    · have hci : decide ((c : Int) < (len : Int)) = true := by simp; omega
      have hcI : (c : Int) < (len : Int) := by omega
      obtain ⟨b, off, rfl, _, hcc⟩ := H.out.spot (by omega)
      have hcell := hcc c hlt
      have hbd := HBY.out.getD c
      have HR : Bx (szR most (l.getD c 0 :: l.drop (c + 1)) n c = T) := ⟨by rw [← drop_getD2 l c (by rw [hl.out]; exact hlt)]; exact HS.out⟩
      have HDR := Bx.mk (drop_getD2 l c (by rw [hl.out]; exact hlt))
      generalize l.getD c 0 = X at hcell hbd HR HDR
      clear hcc HS
      by_cases h13 : 0 < c ∧ X = 13
      · have HT : Bx (T = (n, c + 2, twoR (l.drop c))) := ⟨by rw [← HR.out, szR_cons, if_pos h13, HDR.out]⟩
        have g1 : decide ((c : Int) > 0) = true := by simp; omega
        have g2 : (X == 13) = true := by simpa using h13.2
        have hcp := h13.1
        clear HR h13 HDR
        skip
        have hsl := run_sl_l (some ⟨b, off, none⟩) len cap c (c : Int) rfl (by omega)
        have HTW := Bx.mk (H.out.rest c (by omega))
        have hz : ((c : Int) == 0) = false := by simp; omega
        generalize slA (some ⟨b, off, none⟩) c cap = a2 at hsl HTW
        go_wp2_with fail
        refine (two_any _ _ _ _ _ HTW.out).mono ?_
        rintro e w' ⟨rfl, rfl⟩
        generalize twoR (l.drop c) = E at HT
        clear hsl HTW
        go_wp2
        go_ret3
        exact ⟨by rw [HT.out]; simp, rfl⟩
      · rw [szR_cons, if_neg h13] at HR
        have hgs : (decide ((c : Int) > 0) = false ∧ c = 0) ∨ (decide ((c : Int) > 0) = true ∧ (X == 13) = false ∧ 0 < c) := by
          by_cases hc0 : c = 0
          · exact .inl ⟨by simp; omega, hc0⟩
          · exact .inr ⟨by simp; omega, by rw [beq_eq_false_iff_ne]; exact fun e => h13 ⟨by omega, e⟩, by omega⟩
        have HGS := Bx.mk hgs
        have hdl := dgt_le X
        have HCT := Bx.mk (counts_any X w hbd)
        obtain ⟨d, hd⟩ : ∃ d, d = dgt X := ⟨_, rfl⟩
        rw [← hd] at HR HCT hdl
        clear hd hgs h13 HDR
        rcases HGS.out with ⟨_, hc0⟩ | ⟨g1, g2, hcp⟩
        · subst hc0
          rw [Nat.add_zero] at hcell
          clear HGS
          go_wp2_with fail
          refine HCT.out.mono ?_
          rintro e w' ⟨rfl, rfl⟩
          clear HCT
          by_cases h16 : d = 16
          · have HT : Bx (T = (0, 0, 4)) := ⟨by rw [← HR.out, if_pos (.inl h16)]⟩
            have k1 : ((d : Int) == 16) = true := by simp; omega
            clear HR h16
            go_wp2
            go_ret3
            exact ⟨by rw [HT.out]; rfl, rfl⟩
          · have k1 : ((d : Int) == 16) = false := by simp; omega
            by_cases hn0 : 0 < 0 ∧ n = 0
            · have HT : Bx (T = (0, 0, 4)) := ⟨by rw [← HR.out, if_pos (.inr hn0)]⟩
              have k2 : ((n : Int) == 0) = true := by simp; omega
              clear HR h16
              first
              | (exfalso; omega)
              | (clear hn0; go_wp2; go_ret3; exact ⟨by rw [HT.out]; rfl, rfl⟩)
            · have HT : Bx ((if most < 16 * (n : Int) + d then (0, 0, 5) else szR most (l.drop (0 + 1)) (16 * n + d) (0 + 1)) = T) := ⟨by rw [← HR.out, if_neg (show ¬ (d = 16 ∨ (0 < 0 ∧ n = 0)) from fun h => h.elim h16 hn0)]⟩
              have HK : Bx (decide ((0 : Int) > 0) = true → ((n : Int) == 0) = false) := ⟨fun h => by
                have h1 : 0 < 0 := by have h9 := of_decide_eq_true h; omega
                rw [beq_eq_false_iff_ne]; exact fun e => hn0 ⟨h1, by omega⟩⟩
              clear HR hn0
              have hdI : (d : Int) ≤ 15 := by omega
              by_cases hbig : most < 16 * (n : Int) + d
              · have HT2 : Bx (T = (0, 0, 5)) := ⟨by rw [← HT.out, if_pos hbig]⟩
                have k2 : decide (16 * (n : Int) + (d : Int) > most) = true := by simpa using hbig
                clear HT h16 hbig
                first | (have k9 := HK.out g1; go_wp2) | go_wp2
                go_ret3
                exact ⟨by rw [HT2.out]; rfl, rfl⟩
              · have HT2 : Bx (szR most (l.drop (0 + 1)) (16 * n + d) (0 + 1) = T) := ⟨by rw [← HT.out, if_neg hbig]⟩
                have k2 : decide (16 * (n : Int) + (d : Int) > most) = false := by simp; omega
                have hle : 16 * (n : Int) + (d : Int) ≤ most := by omega
                clear HT h16 hbig
                first | (have k9 := HK.out g1; go_wp2) | go_wp2
                go_round
                case rel => exact ⟨16 * n + d, 0 + 1, by omega, by go_num, by go_num, by omega, HT2⟩
                case measure => simp [intOf]; omega
        · skip
          clear HGS
          go_wp2_with fail
          refine HCT.out.mono ?_
          rintro e w' ⟨rfl, rfl⟩
          clear HCT
          by_cases h16 : d = 16
          · have HT : Bx (T = (0, 0, 4)) := ⟨by rw [← HR.out, if_pos (.inl h16)]⟩
            have k1 : ((d : Int) == 16) = true := by simp; omega
            clear HR h16
            go_wp2
            go_ret3
            exact ⟨by rw [HT.out]; rfl, rfl⟩
          · have k1 : ((d : Int) == 16) = false := by simp; omega
            by_cases hn0 : 0 < c ∧ n = 0
            · have HT : Bx (T = (0, 0, 4)) := ⟨by rw [← HR.out, if_pos (.inr hn0)]⟩
              have k2 : ((n : Int) == 0) = true := by simp; omega
              clear HR h16
              first
              | (exfalso; omega)
              | (clear hn0; go_wp2; go_ret3; exact ⟨by rw [HT.out]; rfl, rfl⟩)
            · have HT : Bx ((if most < 16 * (n : Int) + d then (0, 0, 5) else szR most (l.drop (c + 1)) (16 * n + d) (c + 1)) = T) := ⟨by rw [← HR.out, if_neg (show ¬ (d = 16 ∨ (0 < c ∧ n = 0)) from fun h => h.elim h16 hn0)]⟩
              have HK : Bx (decide ((c : Int) > 0) = true → ((n : Int) == 0) = false) := ⟨fun h => by
                have h1 : 0 < c := by have h9 := of_decide_eq_true h; omega
                rw [beq_eq_false_iff_ne]; exact fun e => hn0 ⟨h1, by omega⟩⟩
              clear HR hn0
              have hdI : (d : Int) ≤ 15 := by omega
              by_cases hbig : most < 16 * (n : Int) + d
              · have HT2 : Bx (T = (0, 0, 5)) := ⟨by rw [← HT.out, if_pos hbig]⟩
                have k2 : decide (16 * (n : Int) + (d : Int) > most) = true := by simpa using hbig
                clear HT h16 hbig
                first | (have k9 := HK.out g1; go_wp2) | go_wp2
                go_ret3
                exact ⟨by rw [HT2.out]; rfl, rfl⟩
              · have HT2 : Bx (szR most (l.drop (c + 1)) (16 * n + d) (c + 1) = T) := ⟨by rw [← HT.out, if_neg hbig]⟩
                have k2 : decide (16 * (n : Int) + (d : Int) > most) = false := by simp; omega
                have hle : 16 * (n : Int) + (d : Int) ≤ most := by omega
                clear HT h16 hbig
                first | (have k9 := HK.out g1; go_wp2) | go_wp2
                go_round
                case rel => exact ⟨16 * n + d, c + 1, by omega, by go_num, by go_num, by omega, HT2⟩
                case measure => simp [intOf]; omega
    · have hci : decide ((c : Int) < (len : Int)) = false := by simp; omega
      have HD : Bx (l.drop c = []) := ⟨List.drop_of_length_le (by rw [hl.out]; omega)⟩
      by_cases hc0 : c = 0
      · subst hc0
        have HT : Bx (T = (0, 0, 3)) := ⟨by rw [← HS.out, HD.out]; rfl⟩
        go_wp2
        go_ret3
        exact ⟨by rw [HT.out]; rfl, rfl⟩
      · have HT : Bx (T = (n, c + 2, twoR (l.drop c))) := ⟨by rw [← HS.out, HD.out]; show (if c = 0 then _ else _) = _; rw [if_neg hc0]; rfl⟩
        have hcp : 0 < c := by omega
        clear hc0 HS HD
        skip
        have hsl := run_sl_l a len cap c (c : Int) rfl (by omega)
        have HTW := Bx.mk (H.out.rest c (by omega))
        have hz : ((c : Int) == 0) = false := by simp; omega
        generalize slA a c cap = a2 at hsl HTW
        go_wp2_with fail
        refine (two_any _ _ _ _ _ HTW.out).mono ?_
        rintro e w' ⟨rfl, rfl⟩
        generalize twoR (l.drop c) = E at HT
        clear hsl HTW
        go_wp2
        go_ret3
        exact ⟨by rw [HT.out]; simp, rfl⟩
end Go.Proofs.YtdameoejigpnhaaGreatDoor
namespace Go.Proofs.YtdameoejigpnhaaGreatDoor
open Go.RowKit
set_option linter.unusedVariables false

set_option maxRecDepth 100000 in
theorem two_len {l : List Int} (h : twoR l = 0) : 2 ≤ l.length := by
  unfold twoR at h
  split at h
  · simp at h
  · split at h
    · simp at h
    · omega
set_option maxRecDepth 100000 in
theorem szR_ok (M : Int) : ∀ (l : List Int) (n c : Nat), (szR M l n c).2.2 = 0 → (szR M l n c).2.1 ≤ c + l.length ∧ c + 2 ≤ (szR M l n c).2.1 ∧ ((n : Int) ≤ M → ((szR M l n c).1 : Int) ≤ M)
  | [], n, c, h => by
    exfalso
    unfold szR at h
    split at h <;> simp at h
  | b :: r, n, c, h => by
    rw [szR_cons] at h ⊢
    split
    · rename_i h1
      rw [if_pos h1] at h
      have := two_len h
      exact ⟨by show c + 2 ≤ _; omega, Nat.le_refl _, fun h => h⟩
    · rename_i h1
      rw [if_neg h1] at h
      split
      · rename_i h2; rw [if_pos h2] at h; simp at h
      · rename_i h2
        rw [if_neg h2] at h
        split
        · rename_i h3; rw [if_pos h3] at h; simp at h
        · rename_i h3
          rw [if_neg h3] at h
          obtain ⟨i1, i2, i3⟩ := szR_ok M r _ _ h
          rw [List.length_cons]
          exact ⟨by omega, by omega, fun _ => i3 (by omega)⟩
/-- the state of the loop -/
structure RW (w wr : World) (m : Nat) (l body : List Int) (v : Value) (p f : Nat) (T : List Int × Nat × Int) : Prop where
  own : wr.ownsRow w.heap.size 5 1 v body.length (bv body)
  byt : Byt body
  le : body.length ≤ m
  bel : Below w.heap.size w wr
  fl : l.length < f + p
  run : whR (m : Int) l f p body = T
set_option maxRecDepth 100000 in
theorem own_slice {w : World} {base : Nat} {v : Value} {l : List Int} (h : w.ownsRow base 5 1 v l.length (bv l)) : ∃ a c, v = .slice a l.length c ∧ (a = none → c = 0) := by
  rcases h.2 with ⟨rfl, h0⟩ | ⟨g, cap, cur, rfl, _⟩
  · exact ⟨none, 0, by rw [h0], fun _ => rfl⟩
  · exact ⟨_, cap, rfl, fun h => by cases h⟩
set_option maxRecDepth 100000 in
set_option maxHeartbeats 2000000 in
theorem rwhole_any (a : Option Addr) (len cap : Nat) (l : List Int) (x : Int) (w : World) (h : Bts w a len cap l) (hs : len ≤ 1099511627776) :
    Calls Tryz.prog 40 #[.slice a len cap, .int .i64 x] w fun e w' => ∃ v, e = .returned (.tuple #[v, .int .i64 ((whV x l).2.1 : Int), .int .i64 (whV x l).2.2]) ∧ w'.ownsRow w.heap.size 5 1 v (whV x l).1.length (bv (whV x l).1) ∧ Below w.heap.size w w' := by
  by_cases hx : x < 0 ∨ 2048 < x
  · have HV : Bx (whV x l = ([], 0, 2)) := ⟨by unfold whV; rw [if_pos hx]⟩
    by_cases h1 : x < 0
    · have g1 : decide (x < 0) = true := by simpa using h1
      clear hx h1
      go_enter Tryz.func40, Tryz.ntmps40
      go_wp2
      go_ret3
      exact ⟨_, by rw [HV.out]; rfl, by rw [HV.out]; exact World.ownsRow_nil _ _ _ _, Below.refl _ _⟩
    · have g1 : decide (x < 0) = false := by simpa using h1
      have g2 : decide (x > 2048) = true := by rcases hx with h | h; exact absurd h h1; simpa using h
      clear hx h1
      go_enter Tryz.func40, Tryz.ntmps40
      go_wp2
      go_ret3
      exact ⟨_, by rw [HV.out]; rfl, by rw [HV.out]; exact World.ownsRow_nil _ _ _ _, Below.refl _ _⟩
  · obtain ⟨m, hm⟩ : ∃ m : Nat, x = (m : Int) := ⟨x.toNat, by omega⟩
    have hm2 : m ≤ 2048 := by omega
    have hlen := h.len_eq
    have HV : Bx (whV x l = whR (m : Int) l (l.length + 1) 0 []) := ⟨by
      rw [wh_run m l _ _ _ (by simp) (by omega) (by omega)]
      unfold whV; rw [if_neg hx, hm]; rfl⟩
    generalize whV x l = T at HV
    subst hm
    have hl : Hid (l.length = len) := hlen
    have hcap := h.le_cap
    have hcm := h.cap_le
    unfold maxLen at hcm
    have HBY : Hid (Byt l) := h.byt
    have H := Bx.mk h
    have g1 : decide ((m : Int) < 0) = false := by simp
    have g2 : decide ((m : Int) > 2048) = false := by simp; omega
    clear hx h hlen
    go_enter Tryz.func40, Tryz.ntmps40
    go_wp2
    clear g1 g2
    go_loopw [7, 8] (fun u i wr => ∃ (p f : Nat) (body : List Int), p ≤ len ∧ i = .int .i64 p ∧ Bx (RW w wr m l body u p f T)) (fun _ i _ => len - (intOf i).toNat)
    case atStart => exact ⟨0, l.length + 1, [], Nat.zero_le _, rfl, ⟨World.ownsRow_nil _ _ _ _, Byt.nil, by simp, Below.refl _ _, by omega, HV.out.symm⟩⟩
    case round =>
      clear HV
      obtain ⟨p, f, body, hp, rfl, HS⟩ := hrel
      obtain ⟨av, cv, hv, hvn⟩ := own_slice HS.out.own
      obtain ⟨f, rfl⟩ : ∃ f', f = f' + 1 := ⟨f - 1, by have := HS.out.fl; have := hl.out; omega⟩
      have hbl := HS.out.le
      have HRUN : Bx (whR (m : Int) l (f + 1) p body = T) := ⟨HS.out.run⟩
      unfold whR at HRUN
      have hsl := run_sl_l a len cap p (p : Int) rfl hp
      have HPB := Bx.mk ((H.out.below HS.out.bel).rest p hp)
      generalize slA a p cap = a2 at hsl HPB
      obtain ⟨Z, hZ⟩ : ∃ Z, szR ((m : Int) - body.length) (l.drop p) 0 0 = Z := ⟨_, rfl⟩
      have HZO : Bx (Z.2.2 = 0 → Z.2.1 ≤ len - p ∧ 2 ≤ Z.2.1 ∧ (Z.1 : Int) ≤ (m : Int) - body.length) := ⟨fun h0 => by
        rw [← hZ] at h0 ⊢
        obtain ⟨i1, i2, i3⟩ := szR_ok _ _ _ _ h0
        rw [List.length_drop, hl.out] at i1
        exact ⟨by omega, by omega, i3 (by simp; omega)⟩⟩
      have HSZ := Bx.mk (sized_any a2 (len - p) (cap - p) (l.drop p) ((m : Int) - body.length) wr HPB.out (by omega) (by omega) (by omega))
      rw [hZ] at HRUN HSZ
      obtain ⟨n, k, E⟩ := Z
      simp only at HZO HSZ
      have HRUN2 : Bx ((if E ≠ 0 then ([], 0, E) else if n = 0 then (if twoR (l.drop (p + k)) ≠ 0 then ([], 0, twoR (l.drop (p + k))) else (body, p + k + 2, 0)) else if l.length < p + k + n then ([], 0, 3) else if twoR (l.drop (p + k + n)) ≠ 0 then ([], 0, twoR (l.drop (p + k + n))) else whR (m : Int) l f (p + k + n + 2) (body ++ (l.drop (p + k)).take n)) = T) := HRUN
      subst hv
      clear HRUN hZ
      go_wp2_with fail
      refine HSZ.out.mono ?_
      rintro e w' ⟨rfl, hw'⟩
      subst hw'
      clear HSZ hsl HPB
      by_cases hE : E ≠ 0
      · have HT : Bx (T = ([], 0, E)) := ⟨by rw [← HRUN2.out, if_pos hE]⟩
        have k1 : (E != 0) = true := by simpa using hE
        clear HRUN2 hE
        go_wp2
        go_ret3
        exact ⟨_, by rw [HT.out]; rfl, by rw [HT.out]; exact World.ownsRow_nil _ _ _ _, HS.out.bel⟩
      · have hE0 : E = 0 := by simpa using hE
        obtain ⟨z1, z2, z3⟩ := HZO.out hE0
        rw [if_neg hE] at HRUN2
        subst hE0
        clear HZO hE
        by_cases hn : n = 0
        · rw [if_pos hn] at HRUN2
          subst hn
          have hsl := run_sl_l a len cap (p + k) ((p : Int) + k) (by omega) (by omega)
          have HTW := Bx.mk ((H.out.below HS.out.bel).rest (p + k) (by omega))
          have hpk : (p : Int) + k ≤ (len : Int) := by omega
          generalize slA a (p + k) cap = a3 at hsl HTW
          go_wp2_with fail
          refine (two_any _ _ _ _ _ HTW.out).mono ?_
          rintro e w' ⟨rfl, hw'⟩
          subst hw'
          generalize twoR (l.drop (p + k)) = E at HRUN2
          clear hsl HTW
          by_cases hE : E = 0
          · have HT : Bx (T = (body, p + k + 2, 0)) := ⟨by rw [← HRUN2.out, if_neg (by simpa using hE)]⟩
            subst hE
            clear HRUN2
            go_wp2
            go_ret3
            exact ⟨.slice av body.length cv, by rw [HT.out]; simp, by rw [HT.out]; exact HS.out.own, HS.out.bel⟩
          · have HT : Bx (T = ([], 0, E)) := ⟨by rw [← HRUN2.out, if_pos hE]⟩
            have k1 : (E != 0) = true := by simpa using hE
            clear HRUN2 hE
            go_wp2
            go_ret3
            exact ⟨_, by rw [HT.out]; rfl, by rw [HT.out]; exact World.ownsRow_nil _ _ _ _, HS.out.bel⟩
        · rw [if_neg hn] at HRUN2
          have k1 : ((n : Int) == 0) = false := by simpa using hn
          rw [hl.out] at HRUN2
          by_cases hsh : len < p + k + n
          · have HT : Bx (T = ([], 0, 3)) := ⟨by rw [← HRUN2.out, if_pos hsh]⟩
            have k2 : decide ((len : Int) - ((p : Int) + k) < (n : Int)) = true := by simp; omega
            clear HRUN2 hn hsh
            go_wp2
            go_ret3
            exact ⟨_, by rw [HT.out]; rfl, by rw [HT.out]; exact World.ownsRow_nil _ _ _ _, HS.out.bel⟩
          · have k2 : decide ((len : Int) - ((p : Int) + k) < (n : Int)) = false := by simp; omega
            rw [if_neg hsh] at HRUN2
            have hsl := run_sl_lh a len cap (p + k) (p + k + n) ((p : Int) + k) ((p : Int) + k + n) (by omega) (by omega) (by omega) (by omega)
            have HPC := Bx.mk ((H.out.below HS.out.bel).piece (p + k) (p + k + n) (by omega) (by omega))
            rw [show p + k + n - (p + k) = n from by omega] at hsl HPC
            generalize slA a (p + k) cap = a3 at hsl HPC
            have hsl2 := run_sl_l a len cap (p + k + n) ((p : Int) + k + n) (by omega) (by omega)
            generalize ha4 : slA a (p + k + n) cap = a4 at hsl2
            have HA4 := Bx.mk ha4
            have HOW := Bx.mk HS.out.own
            have hle5 : p + k + n ≤ len := by omega
            have HWL : Bx (2 ≤ (l.drop (p + k + n)).length → p + k + n + 2 ≤ len) := ⟨fun h => by rw [List.length_drop, hl.out] at h; omega⟩
            have HPL : Bx (((l.drop (p + k)).take n).length = n) := ⟨HPC.out.len_eq⟩
            clear hn hsh ha4
            go_wp2_with (at_builtin; refine wpList_append_bts rfl (.tmp 56) (.tmp 62) rfl w.heap.size body.length _ body rfl HOW.out a3 n _ _ rfl HPC.out (by omega) HS.out.bel.size ?_; intro v5 w5 ho5 hb5 _; have HO5 := Bx.mk ho5; have HB5 := Bx.mk (HS.out.bel.trans hb5); have HTW : Bx (Bts w5 a4 (len - (p + k + n)) (cap - (p + k + n)) (l.drop (p + k + n))) := ⟨by (rw [← HA4.out]; exact (H.out.below HB5.out).rest (p + k + n) (by omega))⟩; clear ho5 hb5)
            refine (two_any _ _ _ _ _ HTW.out).mono ?_
            rintro e w' ⟨rfl, hw'⟩
            subst hw'
            clear hsl hsl2 HPC HOW
            by_cases hE : twoR (l.drop (p + k + n)) = 0
            · have HT : Bx (whR (m : Int) l f (p + k + n + 2) (body ++ (l.drop (p + k)).take n) = T) := ⟨by rw [← HRUN2.out, if_neg (by simpa using hE)]⟩
              have hp5 := HWL.out (two_len hE)
              rw [hE]
              clear HRUN2 hE HWL HTW
              obtain ⟨nb, HNB⟩ : ∃ nb, Bx (nb = body ++ (l.drop (p + k)).take n) := ⟨_, ⟨rfl⟩⟩
              rw [← HNB.out] at HO5 HT
              have HNL : Bx (nb.length = body.length + n) := ⟨by rw [HNB.out, List.length_append, HPL.out]⟩
              rw [← HNL.out] at HO5
              have HNY : Bx (Byt nb) := ⟨by rw [HNB.out]; exact HS.out.byt.append (fun c hc => HBY.out c (List.mem_of_mem_drop (List.mem_of_mem_take hc)))⟩
              have HFL : Bx (l.length < f + (p + k + n + 2)) := ⟨by have := HS.out.fl; omega⟩
              have HNM : Bx (nb.length ≤ m) := ⟨by rw [HNL.out]; omega⟩
              clear HNB HNL HPL
              obtain ⟨av5, cv5, hv5, _⟩ := own_slice HO5.out
              subst hv5
              go_wp2
              go_roundw
              case rel => exact ⟨p + k + n + 2, f, nb, by omega, by go_num, ⟨HO5.out, HNY.out, HNM.out, HB5.out, HFL.out, HT.out⟩⟩
              case measure => simp [intOf]; omega
            · have HT : Bx (T = ([], 0, twoR (l.drop (p + k + n)))) := ⟨by rw [← HRUN2.out, if_pos hE]⟩
              generalize twoR (l.drop (p + k + n)) = E at HT hE
              have k3 : (E != 0) = true := by simpa using hE
              clear HRUN2 hE HWL HTW
              obtain ⟨av5, cv5, hv5, _⟩ : ∃ a c, v5 = .slice a (body.length + n) c ∧ True := by
                rcases HO5.out.2 with ⟨rfl, h0⟩ | ⟨g, cap, cur, rfl, _⟩
                · exact ⟨none, 0, by rw [h0], trivial⟩
                · exact ⟨_, cap, rfl, trivial⟩
              subst hv5
              go_wp2
              go_ret3
              exact ⟨_, by rw [HT.out]; rfl, by rw [HT.out]; exact World.ownsRow_nil _ _ _ _, HB5.out⟩
end Go.Proofs.YtdameoejigpnhaaGreatDoor
