/- What the document's Var and ReadVar answer. -/
import Derived.Test.YtlodbkjjkhpbaaaVar
import Derived.Test.YtlodbkjjkhpbaaaCut
namespace Go.Proofs.Ytlodbkjjkhpbaaa
open Go.RowKit
set_option linter.unusedVariables false

set_option maxHeartbeats 400000 in
theorem refvar_any (f : Nat) : ∀ (x : Int) (w : World), f ≤ 9 → 0 ≤ x → x ≤ 18446744073709551615 → x < 128 ^ (f + 1) →
    Calls Try.prog 18 #[.int .u64 x] w fun e w' => ∃ v, e = .returned v ∧ w'.ownsRow w.heap.size 5 1 v (varF f x).length (bv (varF f x)) ∧ Below w.heap.size w w' := by
  obtain ⟨i0, hi, hz0, hz1, hz2⟩ := info_parts Try.info5
  induction f with
  | zero =>
    intro x w hf hx0 hx1 hx2
    have h128 : x < 128 := hx2
    clear hx2
    rw [varF_small 0 x h128]
    go_enter Try.func18, Try.ntmps18
    go_wp2
    go_ret
    exact ⟨_, rfl, World.ownsRow_lit w #[.int .u8 x] 1 (Nat.le_refl _) (by unfold maxLen; omega) rfl, (Below.refl _ _).alloc (Nat.le_refl _) _⟩
  | succ f ih =>
    intro x w hf hx0 hx1 hx2
    by_cases h128 : x < 128
    · clear hx2 ih
      rw [varF_small _ x h128]
      go_enter Try.func18, Try.ntmps18
      go_wp2
      go_ret
      exact ⟨_, rfl, World.ownsRow_lit w #[.int .u8 x] 1 (Nat.le_refl _) (by unfold maxLen; omega) rfl, (Below.refl _ _).alloc (Nat.le_refl _) _⟩
    · have hx3 : x / 128 < 128 ^ (f + 1) := by rw [Int.pow_succ] at hx2; omega
      have HI : Hid (∀ (x : Int) (w : World), f ≤ 9 → 0 ≤ x → x ≤ 18446744073709551615 → x < 128 ^ (f + 1) → Calls Try.prog 18 #[.int .u64 x] w fun e w' => ∃ v, e = .returned v ∧ w'.ownsRow w.heap.size 5 1 v (varF f x).length (bv (varF f x)) ∧ Below w.heap.size w w') := ih
      have H3 : Hid (x / 128 < 128 ^ (f + 1)) := hx3
      have HV : Hid (varF (f + 1) x = (x % 128 + 128) :: varF f (x / 128)) := varF_big f x h128
      have hlen := varF_length f (x / 128)
      have hbyt : Byt (varF f (x / 128)) := varF_byt f (x / 128) (by omega) hx3
      clear ih hx2 hx3
      rw [HV.out]
      go_enter Try.func18, Try.ntmps18
      go_wp2_with fail
      have hrow := World.ownsRow_lit (base := w.heap.size) (e := 5) (size := 1) w #[.int .u8 (128 + x % 128)] 1 (Nat.le_refl _) (by unfold maxLen; omega) rfl
      have hB0 : Below w.heap.size w (w.alloc (.cells #[.int .u8 (128 + x % 128)] 5)) := (Below.refl _ _).alloc (Nat.le_refl _) _
      refine (HI.out (x / 128) _ (by omega) (by omega) (by omega) H3.out).mono ?_
      rintro e w1 ⟨v, rfl, hown, hb1⟩
      have hrow1 := owns_below hrow hb1
      have hB1 := bstep hB0 hb1
      obtain ⟨ao, cap, rfl, hbt⟩ := Bts.of_owns hown hbyt
      obtain ⟨b, off, rfl, _, _⟩ := hbt.spot (by omega)
      have hcells := hbt.cells
      clear hrow hB0 hb1 HI H3 hown hbt
      generalize ht : varF f (x / 128) = t at *
      have HT : Hid (varF f (x / 128) = t) := ht
      clear ht
      go_wp2_with (at_builtin; refine wpList_append_own _ rfl _ _ 29 rfl w.heap.size 5 i0 (.int .u8 0) 1 1 Try.underlying29 hi hz0 hz1 hz2 rfl (by decide) _ _ _ rfl hrow1 ⟨b, off, none⟩ t.length cap (bv t) rfl (by rw [bv_length]; omega) hcells (bv_one t) (by unfold maxLen; omega) (by omega) hB1.size ?_)
      intro v' w2 hown' hgrow _
      have hB2 : Below w.heap.size w w2 := hB1.grown hgrow hB1.size (by intro g hg; cases hg; exact Nat.le_refl _)
      have hres : w2.ownsRow w.heap.size 5 1 v' ((x % 128 + 128) :: t).length (bv ((x % 128 + 128) :: t)) := by
        rw [List.length_cons, Nat.add_comm, Int.add_comm]; exact hown'
      clear hown' hgrow hrow1 hcells
      go_wp2
      go_ret
      exact ⟨_, rfl, by rw [HT.out]; exact hres, hB2⟩

set_option maxRecDepth 100000 in
/-- the short number whose bytes from the place m on are read -/
theorem valL_step (s : List Int) (m : Nat) (h : m < s.length) : valL (s.drop m) = 128 * valL (s.drop (m + 1)) + s.getD m 0 % 128 := by
  rw [drop_getD s m h]; simp only [valL]; omega
set_option maxRecDepth 100000 in
theorem valL_snoc (l : List Int) (k : Nat) (h : k < l.length) : valL (l.take (k + 1)) = valL (l.take k) + l.getD k 0 % 128 * 128 ^ k := by
  rw [take_succ_getD l k h, valL_append, List.length_take, Nat.min_eq_left (Nat.le_of_lt h), Int.mul_comm]; simp [valL]
set_option maxRecDepth 100000 in
/-- no short number that is taken passes 64 bits -/
theorem valL_u64 (l : List Int) (k : Nat) (h : k < l.length) (hk : k ≤ 9) (h9 : k = 9 → l.getD k 0 ≤ 1) (hc : 0 ≤ l.getD k 0) : valL (l.take (k + 1)) ≤ 18446744073709551615 := by
  have hs := valL_snoc l k h
  have hb := valL_bd (l.take k)
  rw [List.length_take, Nat.min_eq_left (Nat.le_of_lt h)] at hb
  by_cases c9 : k = 9
  · have h1 := h9 c9
    subst c9
    rw [show (128 : Int) ^ 9 = 9223372036854775808 from rfl] at hs hb
    omega
  · have hp8 := p128_le8 k (by omega)
    have hm := mul_bd (a := l.getD k 0 % 128) (by omega) (by omega) (p128 k)
    generalize l.getD k 0 % 128 * 128 ^ k = T at *
    omega

set_option maxRecDepth 100000 in
theorem refrd_step (l : List Int) (k m : Nat) (h1 : 1 ≤ m) (hm : m ≤ k + 1) (hk : k < l.length) : valL ((l.take (k + 1)).drop (m - 1)) = 128 * valL ((l.take (k + 1)).drop m) + l.getD (m - 1) 0 % 128 := by
  have h := valL_step (l.take (k + 1)) (m - 1) (by rw [List.length_take]; omega)
  rw [show m - 1 + 1 = m from by omega] at h
  rw [h, List.getD_eq_getElem?_getD, List.getElem?_take, if_pos (by omega), ← List.getD_eq_getElem?_getD]
/-- the ways of a round: an error of form (three), the last byte (three), a byte that is not the last (two) -/
def Form (k : Nat) (C : Int) : Prop := (k = 9 ∧ 1 < C) ∨ (¬ 128 ≤ C ∧ C = 0 ∧ 0 < k)
def Last (k : Nat) (C : Int) : Prop := ¬ (k = 9 ∧ 1 < C) ∧ ¬ 128 ≤ C ∧ ¬ (C = 0 ∧ 0 < k)
def More (k : Nat) (C : Int) : Prop := k ≤ 8 ∧ 128 ≤ C
set_option maxRecDepth 100000 in
theorem refrd_form {k : Nat} {C : Int} (t : List Int) (X : Int) (h : Form k C) : rd (C :: t) k X = (0, 0, 4) := by
  unfold rd
  rcases h with h | ⟨h1, h2⟩
  · rw [if_pos h]
  · by_cases c : k = 9 ∧ 1 < C
    · rw [if_pos c]
    · rw [if_neg c, if_neg h1, if_pos h2]
set_option maxRecDepth 100000 in
theorem refrd_last {k : Nat} {C : Int} (t : List Int) (X : Int) (h : Last k C) : rd (C :: t) k X = (X + C % 128 * 128 ^ k, (k : Int) + 1, 0) := by
  unfold rd; rw [if_neg h.1, if_neg h.2.1, if_neg h.2.2]
set_option maxRecDepth 100000 in
theorem refrd_more {k : Nat} {C : Int} (t : List Int) (X : Int) (h : More k C) : rd (C :: t) k X = rd t (k + 1) (X + C % 128 * 128 ^ k) := by
  conv => lhs; unfold rd
  rw [if_neg (by have := h.1; omega), if_pos h.2]
set_option maxRecDepth 100000 in
theorem refrd_cases (k : Nat) (C : Int) (hk : k ≤ 9) :
    (Form k C ∧ ((k : Int) + 1 == 10) = true ∧ 1 < C) ∨
    (Form k C ∧ ((k : Int) + 1 == 10) = true ∧ ¬ 1 < C ∧ (1 : Int) < (k : Int) + 1 ∧ (C == 0) = true) ∨
    (Form k C ∧ ((k : Int) + 1 == 10) = false ∧ (1 : Int) < (k : Int) + 1 ∧ (C == 0) = true) ∨
    (Last k C ∧ ((k : Int) + 1 == 10) = true ∧ ¬ 1 < C ∧ (1 : Int) < (k : Int) + 1 ∧ (C == 0) = false ∧ C < 128) ∨
    (Last k C ∧ ((k : Int) + 1 == 10) = false ∧ ¬ (1 : Int) < (k : Int) + 1 ∧ C < 128) ∨
    (Last k C ∧ ((k : Int) + 1 == 10) = false ∧ (1 : Int) < (k : Int) + 1 ∧ (C == 0) = false ∧ C < 128) ∨
    (More k C ∧ ((k : Int) + 1 == 10) = false ∧ ¬ (1 : Int) < (k : Int) + 1 ∧ ¬ C < 128) ∨
    (More k C ∧ ((k : Int) + 1 == 10) = false ∧ (1 : Int) < (k : Int) + 1 ∧ (C == 0) = false ∧ ¬ C < 128) := by
  by_cases h9 : k = 9
  · have b1 : ((k : Int) + 1 == 10) = true := by simp; omega
    by_cases h1 : 1 < C
    · exact .inl ⟨.inl ⟨h9, h1⟩, b1, h1⟩
    · by_cases h0 : C = 0
      · exact .inr (.inl ⟨.inr ⟨by omega, h0, by omega⟩, b1, h1, by omega, by simpa using h0⟩)
      · exact .inr (.inr (.inr (.inl ⟨⟨fun h => h1 h.2, by omega, fun h => h0 h.1⟩, b1, h1, by omega, by simpa using h0, by omega⟩)))
  · have b1 : ((k : Int) + 1 == 10) = false := by rw [beq_eq_false_iff_ne]; omega
    by_cases hk0 : 0 < k
    · have b3 : (1 : Int) < (k : Int) + 1 := by omega
      by_cases h0 : C = 0
      · exact .inr (.inr (.inl ⟨.inr ⟨by omega, h0, hk0⟩, b1, b3, by simpa using h0⟩))
      · have b4 : (C == 0) = false := by simpa using h0
        by_cases h128 : C < 128
        · exact .inr (.inr (.inr (.inr (.inr (.inl ⟨⟨fun h => h9 h.1, by omega, fun h => h0 h.1⟩, b1, b3, b4, h128⟩)))))
        · exact .inr (.inr (.inr (.inr (.inr (.inr (.inr ⟨⟨by omega, by omega⟩, b1, b3, b4, h128⟩))))))
    · have b3 : ¬ (1 : Int) < (k : Int) + 1 := by omega
      by_cases h128 : C < 128
      · exact .inr (.inr (.inr (.inr (.inl ⟨⟨fun h => h9 h.1, by omega, fun h => hk0 h.2⟩, b1, b3, h128⟩))))
      · exact .inr (.inr (.inr (.inr (.inr (.inr (.inl ⟨⟨by omega, by omega⟩, b1, b3, h128⟩))))))

set_option maxHeartbeats 2000000 in
theorem refreadvar_any (a : Option Addr) (len cap : Nat) (l : List Int) (w : World) (h : Bts w a len cap l) :
    Calls Try.prog 20 #[.slice a len cap] w fun e w' => e = .returned (rdVal (rd l 0 0)) ∧ w = w' := by
  have hl : Hid (l.length = len) := h.len_eq
  have hm := Nat.le_trans h.le_cap h.cap_le
  unfold maxLen at hm
  have HB : Hid (Byt l) := h.byt
  go_enter Try.func20, Try.ntmps20
  go_wp2
  go_loop [5] (fun i => ∃ k : Nat, k ≤ len ∧ k ≤ 9 ∧ i = .int .i64 ((k : Int) + 1) ∧ rd (l.drop k) k (valL (l.take k)) = rd l 0 0) (fun i => len + 1 - (intOf i).toNat)
  case atStart => exact ⟨0, Nat.zero_le _, by omega, by go_num, rfl⟩
  case round =>
    obtain ⟨k, hk, hk9, rfl, hrd⟩ := hrel
    have HR : Hid (rd (l.drop k) k (valL (l.take k)) = rd l 0 0) := hrd
    clear hrd
    have hk10 : (k : Int) + 1 ≤ 10 := by omega
    by_cases hlt : k < len
    · obtain ⟨b, off, rfl, _, hc⟩ := h.spot (by omega)
      have hle : (k : Int) + 1 ≤ (len : Int) := by omega
      have hle2 : decide ((k : Int) + 1 ≤ (len : Int)) = true := by simp; omega
      have hcell := hc k hlt
      have hbd := HB.out.getD k
      have HD : Hid (l.drop k = l.getD k 0 :: l.drop (k + 1)) := drop_getD l k (by rw [hl.out]; exact hlt)
      have HU : Hid ((k = 9 → l.getD k 0 ≤ 1) → valL (l.take (k + 1)) ≤ 18446744073709551615) := fun h9 => valL_u64 l k (by rw [hl.out]; exact hlt) hk9 h9 hbd.1
      have HS : Hid (valL (l.take (k + 1)) = valL (l.take k) + l.getD k 0 % 128 * 128 ^ k) := valL_snoc l k (by rw [hl.out]; exact hlt)
      have HC : Hid (∀ i, i < len → w.cell? ⟨b, off + i, none⟩ = some (.int .u8 (l.getD i 0))) := hc
      clear hc
      generalize hC : l.getD k 0 = C at hcell hbd HD HU HS
      clear hC
      have HR2 : Hid (rd (C :: l.drop (k + 1)) k (valL (l.take k)) = rd l 0 0) := by show _ = _; rw [← HD.out]; exact HR.out
      rcases refrd_cases k C hk9 with ⟨cl, b1, b2⟩ | ⟨cl, b1, b2, b3, b4⟩ | ⟨cl, b1, b3, b4⟩ | ⟨cl, b1, b2, b3, b4, b5⟩ | ⟨cl, b1, b3, b5⟩ | ⟨cl, b1, b3, b4, b5⟩ | ⟨cl, b1, b3, b5⟩ | ⟨cl, b1, b3, b4, b5⟩
      iterate 3
        · have HF : Hid (rd l 0 0 = (0, 0, 4)) := by show _ = _; rw [← HR2.out]; exact refrd_form _ _ cl
          clear cl
          go_wp2
          go_ret3
          exact ⟨rd_ret HF.out, rfl⟩
      iterate 3
        · have HF : Hid (rd l 0 0 = (valL (l.take (k + 1)), (k : Int) + 1, 0)) := by show _ = _; rw [← HR2.out, HS.out]; exact refrd_last _ _ cl
          have hu64 : valL (l.take (k + 1)) ≤ 18446744073709551615 := HU.out (fun h9 => by have := cl.1; omega)
          clear cl
          go_wp2
          go_loop [7, 8] (fun x i => ∃ m : Nat, m ≤ k + 1 ∧ i = .int .i64 ((m : Int) - 1) ∧ x = .int .u64 (valL ((l.take (k + 1)).drop m))) (fun _ i => (intOf i + 1).toNat)
          case atStart => exact ⟨k + 1, Nat.le_refl _, by go_num, by rw [List.drop_of_length_le (by rw [List.length_take]; omega)]; rfl⟩
          case round =>
            obtain ⟨m, hmk, rfl, rfl⟩ := hrel
            by_cases hm0 : 1 ≤ m
            · have HST : Hid (valL ((l.take (k + 1)).drop (m - 1)) = 128 * valL ((l.take (k + 1)).drop m) + l.getD (m - 1) 0 % 128) := refrd_step l k m hm0 hmk (by rw [hl.out]; exact hlt)
              have hv1 := valL_drop_le (l.take (k + 1)) (m - 1)
              have hv0 := valL_bd ((l.take (k + 1)).drop m)
              have hcm := HC.out (m - 1) (by omega)
              have hbm := HB.out.getD (m - 1)
              have hmx : valL ((l.take (k + 1)).drop (m - 1)) ≤ 18446744073709551615 := Int.le_trans hv1 hu64
              rw [HST.out] at hmx
              clear hv1
              have hv0' := hv0.1
              clear hv0
              generalize valL ((l.take (k + 1)).drop m) = Y at *
              generalize l.getD (m - 1) 0 = D at *
              go_wp2
              go_round
              case rel => exact ⟨m - 1, by omega, by go_num, by rw [HST.out]⟩
              case measure => simp [intOf]; omega
            · obtain rfl : m = 0 := by omega
              go_wp2
              go_ret3
              exact ⟨rd_ret HF.out, rfl⟩
      iterate 2
        · have HF : Hid (rd (l.drop (k + 1)) (k + 1) (valL (l.take (k + 1))) = rd l 0 0) := by show _ = _; rw [← HR2.out, HS.out]; exact (refrd_more _ _ cl).symm
          have hk8 : k ≤ 8 := cl.1
          clear cl
          go_wp2
          go_round
          case rel => exact ⟨k + 1, by omega, by omega, by go_num, HF.out⟩
          case measure => simp [intOf]; omega
    · have HF : Hid (rd l 0 0 = (0, 0, 3)) := by show _ = _; rw [← HR.out, List.drop_of_length_le (by rw [hl.out]; omega)]; rfl
      have hle : ¬ (k : Int) + 1 ≤ (len : Int) := by omega
      have hle2 : decide ((k : Int) + 1 ≤ (len : Int)) = false := by simp; omega
      go_wp2
      go_ret3
      exact ⟨rd_ret HF.out, rfl⟩
end Go.Proofs.Ytlodbkjjkhpbaaa
