/- The document's own sized. -/
import Derived.Test.YtjlclgmbenhakaaRChunk
namespace Go.Proofs.Ytjlclgmbenhakaa
open Go.RowKit
set_option linter.unusedVariables false

set_option maxRecDepth 100000 in
theorem drop_getD2 (l : List Int) (k : Nat) (h : k < l.length) : l.drop k = l.getD k 0 :: l.drop (k + 1) := by
  rw [List.getD_eq_getElem?_getD, List.getElem?_eq_getElem h]; exact List.drop_eq_getElem_cons h
set_option maxRecDepth 100000 in
set_option maxHeartbeats 1000000 in
theorem sized_any (a : Option Addr) (len cap : Nat) (l : List Int) (most : Int) (w : World) (h : Bts w a len cap l) (hs : len ≤ 1099511627776) (h0 : -1000000 ≤ most) (h2 : most ≤ 1000000) :
    Calls Try.prog 17 #[.slice a len cap, .int .i64 most] w fun e w' => e = .returned (.tuple #[.int .i64 ((szR most l 0 0).1 : Int), .int .i64 ((szR most l 0 0).2.1 : Int), .int .i64 (szR most l 0 0).2.2]) ∧ w = w' := by
  have hl : Hid (l.length = len) := h.len_eq
  have hm := Nat.le_trans h.le_cap h.cap_le
  unfold maxLen at hm
  have HBY : Hid (Byt l) := h.byt
  have H := Bx.mk h
  generalize hT : szR most l 0 0 = T
  have HT0 := Bx.mk hT
  clear h hT
  go_enter Try.func17, Try.ntmps17
  go_wp2
  go_loop [7, 8] (fun u i => ∃ (n c : Nat), c ≤ len ∧ i = .int .i64 c ∧ u = .int .i64 n ∧ (n : Int) ≤ 1000000 ∧ Bx (szR most (l.drop c) n c = T)) (fun _ i => len - (intOf i).toNat)
  case atStart => exact ⟨0, 0, Nat.zero_le _, rfl, rfl, by decide, HT0⟩
  case round =>
    clear HT0
    obtain ⟨n, c, hc, rfl, rfl, hn, HS⟩ := hrel
    by_cases hlt : c < len
    · have hci : decide ((c : Int) < (len : Int)) = true := by simp; omega
      have hcI : (c : Int) < (len : Int) := by omega
      obtain ⟨b, off, rfl, _, hcc⟩ := H.out.spot (by omega)
      have hcell := hcc c hlt
      have hbd := HBY.out.getD c
      have HR : Bx (szR most (l.getD c 0 :: l.drop (c + 1)) n c = T) := ⟨by rw [← drop_getD2 l c (by rw [hl.out]; exact hlt)]; exact HS.out⟩
      have HDR := Bx.mk (drop_getD2 l c (by rw [hl.out]; exact hlt))
      generalize l.getD c 0 = X at hcell hbd HR HDR
      clear hcc HS
      by_cases h13 : 0 < c ∧ X = 13
      · have HT : Bx (T = (n, c + 2, twoR (l.drop c))) := ⟨by rw [← HR.out, szR_cons, if_pos h13, HDR.out]⟩
        have g1 : decide ((c : Int) > 0) = true := by simp; omega
        have g2 : (X == 13) = true := by simpa using h13.2
        have hcp := h13.1
        clear HR h13 HDR
        skip
        have hsl := run_sl_l (some ⟨b, off, none⟩) len cap c (c : Int) rfl (by omega)
        have HTW := Bx.mk (H.out.rest c (by omega))
        have hz : ((c : Int) == 0) = false := by simp; omega
        generalize slA (some ⟨b, off, none⟩) c cap = a2 at hsl HTW
        go_wp2_with fail
        refine (two_any _ _ _ _ _ HTW.out).mono ?_
        rintro e w' ⟨rfl, rfl⟩
        generalize twoR (l.drop c) = E at HT
        clear hsl HTW
        go_wp2
        go_ret3
        exact ⟨by rw [HT.out]; simp, rfl⟩
      · rw [szR_cons, if_neg h13] at HR
        have hgs : (decide ((c : Int) > 0) = false ∧ c = 0) ∨ (decide ((c : Int) > 0) = true ∧ (X == 13) = false ∧ 0 < c) := by
          by_cases hc0 : c = 0
          · exact .inl ⟨by simp; omega, hc0⟩
          · exact .inr ⟨by simp; omega, by rw [beq_eq_false_iff_ne]; exact fun e => h13 ⟨by omega, e⟩, by omega⟩
        have HGS := Bx.mk hgs
        have hdl := dgt_le X
        have HCT := Bx.mk (counts_any X w hbd)
        obtain ⟨d, hd⟩ : ∃ d, d = dgt X := ⟨_, rfl⟩
        rw [← hd] at HR HCT hdl
        clear hd hgs h13 HDR
        rcases HGS.out with ⟨_, hc0⟩ | ⟨g1, g2, hcp⟩
        · subst hc0
          rw [Nat.add_zero] at hcell
          clear HGS
          go_wp2_with fail
          refine HCT.out.mono ?_
          rintro e w' ⟨rfl, rfl⟩
          clear HCT
          by_cases h16 : d = 16
          · have HT : Bx (T = (0, 0, 4)) := ⟨by rw [← HR.out, if_pos (.inl h16)]⟩
            have k1 : ((d : Int) == 16) = true := by simp; omega
            clear HR h16
            go_wp2
            go_ret3
            exact ⟨by rw [HT.out]; rfl, rfl⟩
          · have k1 : ((d : Int) == 16) = false := by simp; omega
            by_cases hn0 : 0 < 0 ∧ n = 0
            · have HT : Bx (T = (0, 0, 4)) := ⟨by rw [← HR.out, if_pos (.inr hn0)]⟩
              have k2 : ((n : Int) == 0) = true := by simp; omega
              clear HR h16
              first
              | (exfalso; omega)
              | (clear hn0; go_wp2; go_ret3; exact ⟨by rw [HT.out]; rfl, rfl⟩)
            · have HT : Bx ((if most < 16 * (n : Int) + d then (0, 0, 5) else szR most (l.drop (0 + 1)) (16 * n + d) (0 + 1)) = T) := ⟨by rw [← HR.out, if_neg (show ¬ (d = 16 ∨ (0 < 0 ∧ n = 0)) from fun h => h.elim h16 hn0)]⟩
              have HK : Bx (decide ((0 : Int) > 0) = true → ((n : Int) == 0) = false) := ⟨fun h => by
                have h1 : 0 < 0 := by have h9 := of_decide_eq_true h; omega
                rw [beq_eq_false_iff_ne]; exact fun e => hn0 ⟨h1, by omega⟩⟩
              clear HR hn0
              have hdI : (d : Int) ≤ 15 := by omega
              by_cases hbig : most < 16 * (n : Int) + d
              · have HT2 : Bx (T = (0, 0, 5)) := ⟨by rw [← HT.out, if_pos hbig]⟩
                have k2 : decide (16 * (n : Int) + (d : Int) > most) = true := by simpa using hbig
                clear HT h16 hbig
                first | (have k9 := HK.out g1; go_wp2) | go_wp2
                go_ret3
                exact ⟨by rw [HT2.out]; rfl, rfl⟩
              · have HT2 : Bx (szR most (l.drop (0 + 1)) (16 * n + d) (0 + 1) = T) := ⟨by rw [← HT.out, if_neg hbig]⟩
                have k2 : decide (16 * (n : Int) + (d : Int) > most) = false := by simp; omega
                have hle : 16 * (n : Int) + (d : Int) ≤ most := by omega
                clear HT h16 hbig
                first | (have k9 := HK.out g1; go_wp2) | go_wp2
                go_round
                case rel => exact ⟨16 * n + d, 0 + 1, by omega, by go_num, by go_num, by omega, HT2⟩
                case measure => simp [intOf]; omega
        · skip
          clear HGS
          go_wp2_with fail
          refine HCT.out.mono ?_
          rintro e w' ⟨rfl, rfl⟩
          clear HCT
          by_cases h16 : d = 16
          · have HT : Bx (T = (0, 0, 4)) := ⟨by rw [← HR.out, if_pos (.inl h16)]⟩
            have k1 : ((d : Int) == 16) = true := by simp; omega
            clear HR h16
            go_wp2
            go_ret3
            exact ⟨by rw [HT.out]; rfl, rfl⟩
          · have k1 : ((d : Int) == 16) = false := by simp; omega
            by_cases hn0 : 0 < c ∧ n = 0
            · have HT : Bx (T = (0, 0, 4)) := ⟨by rw [← HR.out, if_pos (.inr hn0)]⟩
              have k2 : ((n : Int) == 0) = true := by simp; omega
              clear HR h16
              first
              | (exfalso; omega)
              | (clear hn0; go_wp2; go_ret3; exact ⟨by rw [HT.out]; rfl, rfl⟩)
            · have HT : Bx ((if most < 16 * (n : Int) + d then (0, 0, 5) else szR most (l.drop (c + 1)) (16 * n + d) (c + 1)) = T) := ⟨by rw [← HR.out, if_neg (show ¬ (d = 16 ∨ (0 < c ∧ n = 0)) from fun h => h.elim h16 hn0)]⟩
              have HK : Bx (decide ((c : Int) > 0) = true → ((n : Int) == 0) = false) := ⟨fun h => by
                have h1 : 0 < c := by have h9 := of_decide_eq_true h; omega
                rw [beq_eq_false_iff_ne]; exact fun e => hn0 ⟨h1, by omega⟩⟩
              clear HR hn0
              have hdI : (d : Int) ≤ 15 := by omega
              by_cases hbig : most < 16 * (n : Int) + d
              · have HT2 : Bx (T = (0, 0, 5)) := ⟨by rw [← HT.out, if_pos hbig]⟩
                have k2 : decide (16 * (n : Int) + (d : Int) > most) = true := by simpa using hbig
                clear HT h16 hbig
                first | (have k9 := HK.out g1; go_wp2) | go_wp2
                go_ret3
                exact ⟨by rw [HT2.out]; rfl, rfl⟩
              · have HT2 : Bx (szR most (l.drop (c + 1)) (16 * n + d) (c + 1) = T) := ⟨by rw [← HT.out, if_neg hbig]⟩
                have k2 : decide (16 * (n : Int) + (d : Int) > most) = false := by simp; omega
                have hle : 16 * (n : Int) + (d : Int) ≤ most := by omega
                clear HT h16 hbig
                first | (have k9 := HK.out g1; go_wp2) | go_wp2
                go_round
                case rel => exact ⟨16 * n + d, c + 1, by omega, by go_num, by go_num, by omega, HT2⟩
                case measure => simp [intOf]; omega
    · have hci : decide ((c : Int) < (len : Int)) = false := by simp; omega
      have HD : Bx (l.drop c = []) := ⟨List.drop_of_length_le (by rw [hl.out]; omega)⟩
      by_cases hc0 : c = 0
      · subst hc0
        have HT : Bx (T = (0, 0, 3)) := ⟨by rw [← HS.out, HD.out]; rfl⟩
        go_wp2
        go_ret3
        exact ⟨by rw [HT.out]; rfl, rfl⟩
      · have HT : Bx (T = (n, c + 2, twoR (l.drop c))) := ⟨by rw [← HS.out, HD.out]; show (if c = 0 then _ else _) = _; rw [if_neg hc0]; rfl⟩
        have hcp : 0 < c := by omega
        clear hc0 HS HD
        skip
        have hsl := run_sl_l a len cap c (c : Int) rfl (by omega)
        have HTW := Bx.mk (H.out.rest c (by omega))
        have hz : ((c : Int) == 0) = false := by simp; omega
        generalize slA a c cap = a2 at hsl HTW
        go_wp2_with fail
        refine (two_any _ _ _ _ _ HTW.out).mono ?_
        rintro e w' ⟨rfl, rfl⟩
        generalize twoR (l.drop c) = E at HT
        clear hsl HTW
        go_wp2
        go_ret3
        exact ⟨by rw [HT.out]; simp, rfl⟩
end Go.Proofs.Ytjlclgmbenhakaa
