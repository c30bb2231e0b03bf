/- Where a list is cut: merkle's Split, and the document's own. What Block and First answer, the package's table holding the chapter's numbers k. -/
import Derived.Test.YtbednfacipphhaaDoorBase
import Derived.Test.YtbednfacipphhaaDoorAuar
import Derived.Test.YtbednfacipphhaaDoorAuae
namespace Go.Proofs.YtbednfacipphhaaDoor
open Go.RowKit
set_option linter.unusedVariables false

/-- how many bits a number has -/
def tb (x : Nat) : Nat := if x = 0 then 0 else Nat.log2 x + 1
set_option maxRecDepth 100000 in
theorem log2_shift {x k : Nat} (h : 2 ^ k ≤ x) : Nat.log2 x = Nat.log2 (x / 2 ^ k) + k := by
  have hp := Nat.one_le_two_pow (n := k)
  have h0 : 1 ≤ x / 2 ^ k := (Nat.le_div_iff_mul_le (by omega)).2 (by omega)
  have h1 := Nat.log2_self_le (n := x / 2 ^ k) (by omega)
  have h2 := Nat.lt_log2_self (n := x / 2 ^ k)
  refine (Nat.log2_eq_iff (by omega)).2 ⟨?_, ?_⟩
  · rw [Nat.pow_add]; exact (Nat.le_div_iff_mul_le (by omega)).1 h1
  · rw [show Nat.log2 (x / 2 ^ k) + k + 1 = (Nat.log2 (x / 2 ^ k) + 1) + k from by omega, Nat.pow_add]
    exact (Nat.div_lt_iff_lt_mul (by omega)).1 h2
set_option maxRecDepth 100000 in
theorem tb_shift (x k : Nat) (h : 2 ^ k ≤ x) : tb x = k + tb (x / 2 ^ k) := by
  have hp := Nat.one_le_two_pow (n := k)
  have h0 : 1 ≤ x / 2 ^ k := (Nat.le_div_iff_mul_le (by omega)).2 (by omega)
  unfold tb
  rw [if_neg (by omega), if_neg (by omega), log2_shift h]; omega
set_option maxRecDepth 100000 in
theorem tb_le : ∀ x : Fin 256, tb x.val ≤ 8 := by decide +kernel
set_option maxRecDepth 100000 in
theorem shr_nat (x k : Nat) (hk : k < 64) : Op.shift .shr .u64 (x : Int) .u64 (k : Int) = pure (.int .u64 ((x / 2 ^ k : Nat) : Int)) := by
  unfold Op.shift
  rw [if_neg (by omega), show min (k : Int).toNat IntKind.u64.bits = k from by simp [IntKind.bits]; omega]
  show pure (Value.int .u64 ((x : Int).fdiv (2 ^ k))) = _
  rw [Int.fdiv_eq_ediv_of_nonneg _ (Int.le_of_lt (Int.pow_pos (by decide)))]
  norm_cast
set_option maxRecDepth 100000 in
theorem idx_str (s : ByteArray) (j : Nat) (b : UInt8) (hb : s[j]? = some b) (w : World) : (Instr.index 9 (.string s) (.int .u8 (j : Int))).run Tryd.prog w = .ok (.int .u8 (b.toNat : Int)) w := by
  simp only [Instr.index, asIntOf, go_sem, part]
  simp [Tryd.underlying9, underlying, hb]
set_option maxRecDepth 100000 in
theorem idx_tab (s : ByteArray) (hs : s.size = 256) (h : ∀ j : Fin 256, (s.data.toList.getD j.val 0).toNat = tb j.val) (t : Nat) (ht : t < 256) (S : Value) (hS : Value.string s = S) : ∀ w, (Instr.index 9 S (.int .u8 (t : Int))).run Tryd.prog w = .ok (.int .u8 (tb t : Int)) w := by
  intro w
  subst hS
  have h1 := h ⟨t, ht⟩
  have h2 : t < s.data.toList.length := by rw [Array.length_toList]; show t < s.size; omega
  simp only [List.getD_eq_getElem?_getD, List.getElem?_eq_getElem h2, Option.getD_some] at h1
  have h3 : s[t]? = some (s.data.toList[t]) := by
    have h4 : t < s.size := by omega
    rw [getElem?_pos s t h4]; rfl
  rw [idx_str s t _ h3 w, h1]

set_option maxRecDepth 10000 in
set_option maxRecDepth 100000 in
theorem len64_walk (a b c : Bool) (x y z t : Nat) (w : World) (ha : decide ((x : Int) ≥ 4294967296) = a) (hb : decide ((y : Int) ≥ 65536) = b) (hc : decide ((z : Int) ≥ 256) = c)
    (sa : a = true → Op.shift .shr .u64 (x : Int) .u64 32 = pure (.int .u64 (y : Int))) (sb : b = true → Op.shift .shr .u64 (y : Int) .u64 16 = pure (.int .u64 (z : Int))) (sc : c = true → Op.shift .shr .u64 (z : Int) .u64 8 = pure (.int .u64 (t : Int)))
    (na : a = false → y = x) (nb : b = false → z = y) (nc : c = false → t = z) (ht : (t : Int) ≤ 255) :
    Calls Tryd.prog 106 #[.int .u64 x] w fun e w' => e = .returned (.int .i64 (((if a then 32 else 0) + (if b then 16 else 0) + (if c then 8 else 0) + tb t : Nat) : Int)) ∧ w = w' := by
  have h8 : (tb t : Int) ≤ 8 := by have : tb t ≤ 8 := tb_le ⟨t, by omega⟩; omega
  obtain ⟨T, hT⟩ : ∃ T, T = tb t := ⟨_, rfl⟩
  rw [← hT] at h8 ⊢
  have HT : Hid (T = tb t) := hT
  clear hT
  cases a <;> cases b <;> cases c
  all_goals
    (first | (have sa' := sa rfl) | (obtain rfl := na rfl))
    (first | (have sb' := sb rfl) | (obtain rfl := nb rfl))
    (first | (have sc' := sc rfl) | (obtain rfl := nc rfl))
    clear sa sb sc na nb nc
    go_enter Tryd.func106, Tryd.ntmps106
    generalize hS : Value.string _ = S
    have hix : ∀ w, (Instr.index 9 S (.int .u8 (t : Int))).run Tryd.prog w = .ok (.int .u8 (T : Int)) w := by rw [HT.out]; exact idx_tab _ (by decide +kernel) (by decide +kernel) t (by omega) S hS
    clear hS
    go_wp2
    go_ret
    exact ⟨ret_int (by simp), rfl⟩
set_option maxRecDepth 100000 in
theorem len64_any (x : Nat) (w : World) (h2 : x < 18446744073709551616) :
    Calls Tryd.prog 106 #[.int .u64 x] w fun e w' => e = .returned (.int .i64 (tb x : Int)) ∧ w = w' := by
  obtain ⟨y, sa, na, ea, by1⟩ : ∃ y : Nat, (decide ((x : Int) ≥ 4294967296) = true → Op.shift .shr .u64 (x : Int) .u64 32 = pure (.int .u64 (y : Int))) ∧ (decide ((x : Int) ≥ 4294967296) = false → y = x) ∧ tb x = (if decide ((x : Int) ≥ 4294967296) then 32 else 0) + tb y ∧ y < 4294967296 := by
    by_cases h : (x : Int) ≥ 4294967296
    · exact ⟨x / 2 ^ 32, fun _ => shr_nat x 32 (by decide), fun k => by simp [h] at k, by rw [if_pos (by simpa using h), ← tb_shift x 32 (by omega)], by omega⟩
    · exact ⟨x, fun k => absurd (of_decide_eq_true k) h, fun _ => rfl, by rw [if_neg (by simpa using h)]; omega, by omega⟩
  obtain ⟨z, sb, nb, eb, bz⟩ : ∃ z : Nat, (decide ((y : Int) ≥ 65536) = true → Op.shift .shr .u64 (y : Int) .u64 16 = pure (.int .u64 (z : Int))) ∧ (decide ((y : Int) ≥ 65536) = false → z = y) ∧ tb y = (if decide ((y : Int) ≥ 65536) then 16 else 0) + tb z ∧ z < 65536 := by
    by_cases h : (y : Int) ≥ 65536
    · exact ⟨y / 2 ^ 16, fun _ => shr_nat y 16 (by decide), fun k => by simp [h] at k, by rw [if_pos (by simpa using h), ← tb_shift y 16 (by omega)], by omega⟩
    · exact ⟨y, fun k => absurd (of_decide_eq_true k) h, fun _ => rfl, by rw [if_neg (by simpa using h)]; omega, by omega⟩
  obtain ⟨t, sc, nc, ec, bt⟩ : ∃ t : Nat, (decide ((z : Int) ≥ 256) = true → Op.shift .shr .u64 (z : Int) .u64 8 = pure (.int .u64 (t : Int))) ∧ (decide ((z : Int) ≥ 256) = false → t = z) ∧ tb z = (if decide ((z : Int) ≥ 256) then 8 else 0) + tb t ∧ t < 256 := by
    by_cases h : (z : Int) ≥ 256
    · exact ⟨z / 2 ^ 8, fun _ => shr_nat z 8 (by decide), fun k => by simp [h] at k, by rw [if_pos (by simpa using h), ← tb_shift z 8 (by omega)], by omega⟩
    · exact ⟨z, fun k => absurd (of_decide_eq_true k) h, fun _ => rfl, by rw [if_neg (by simpa using h)]; omega, by omega⟩
  refine (len64_walk _ _ _ x y z t w rfl rfl rfl sa sb sc na nb nc (by omega)).mono ?_
  rintro e w' ⟨rfl, rfl⟩
  exact ⟨ret_int (by rw [ea, eb, ec]; omega), rfl⟩
set_option maxRecDepth 100000 in
theorem len_any (x : Nat) (w : World) (h2 : x < 18446744073709551616) :
    Calls Tryd.prog 100 #[.int .u64 x] w fun e w' => e = .returned (.int .i64 (tb x : Int)) ∧ w = w' := by
  have hb : decide ((x : Int) ≤ 18446744073709551615) = true := by simp; omega
  go_enter Tryd.func100, Tryd.ntmps100
  go_wp2_with fail
  refine (len64_any x _ h2).mono ?_
  rintro e w' ⟨rfl, rfl⟩
  go_wp2
  go_ret
  exact ⟨rfl, rfl⟩
set_option maxRecDepth 100000 in
theorem split_any (n : Int) (w : World) (h2 : n ≤ 9223372036854775807) :
    Calls Tryd.prog 84 #[.int .i64 n] w fun e w' => e = .returned (.int .i64 (splitN n.toNat : Int)) ∧ w = w' := by
  by_cases h : n < 2
  · have HS : Hid ((splitN n.toNat : Int) = 0) := by unfold splitN; rw [if_pos (by omega)]; rfl
    go_enter Tryd.func84, Tryd.ntmps84
    go_wp2
    go_ret
    exact ⟨ret_int HS.out.symm, rfl⟩
  · have e2 : tb (n - 1).toNat = Nat.log2 (n - 1).toNat + 1 := by unfold tb; rw [if_neg (by omega)]
    have e3 : Nat.log2 (n - 1).toNat ≤ 62 := by
      have := (Nat.log2_lt (n := (n - 1).toNat) (k := 63) (by omega)).2 (by omega)
      omega
    obtain ⟨K, hK⟩ : ∃ K, K = Nat.log2 (n - 1).toNat := ⟨_, rfl⟩
    rw [← hK] at e2 e3
    have HS : Hid ((splitN n.toNat : Int) = ((2 ^ K : Nat) : Int)) := by
      show _ = _
      unfold splitN; rw [if_neg (by omega), hK, show n.toNat - 1 = (n - 1).toNat from by omega]
    have hp : 2 ^ K ≤ 2 ^ 62 := Nat.pow_le_pow_right (by decide) e3
    have HW : Hid (wrap64 (2 ^ K) = (splitN n.toNat : Int)) := by
      show _ = _
      rw [HS.out, show (2 : Int) ^ K = ((2 ^ K : Nat) : Int) from by simp]
      generalize 2 ^ K = Q at hp ⊢
      unfold wrap64; omega
    have HL : Bx (∀ w, Calls Tryd.prog 100 #[.int .u64 (n - 1)] w fun e w' => e = .returned (.int .i64 ((K : Int) + 1)) ∧ w = w') := ⟨fun w => by
      have h3 := len_any (n - 1).toNat w (by omega)
      rw [e2, show (((n - 1).toNat : Nat) : Int) = n - 1 from by omega] at h3
      exact h3⟩
    clear hK e2 HS hp
    go_enter Tryd.func84, Tryd.ntmps84
    go_wp2_with fail
    refine (HL.out _).mono ?_
    rintro e w' ⟨rfl, rfl⟩
    go_wp2
    go_ret
    exact ⟨ret_int HW.out, rfl⟩
set_option maxRecDepth 100000 in
theorem refsplit_any (n : Int) (w : World) (h2 : n ≤ 9223372036854775807) :
    Calls Tryd.prog 97 #[.int .i64 n] w fun e w' => e = .returned (.int .i64 (splitN n.toNat : Int)) ∧ w = w' := by
  by_cases h : n < 2
  · have HS : Hid ((splitN n.toNat : Int) = 0) := by unfold splitN; rw [if_pos (by omega)]; rfl
    go_enter Tryd.func97, Tryd.ntmps97
    go_wp2
    go_ret
    exact ⟨ret_int HS.out.symm, rfl⟩
  · go_enter Tryd.func97, Tryd.ntmps97
    go_wp2
    go_loop [3] (fun k => ∃ j : Nat, ∃ q : Nat, j ≤ 62 ∧ q = 2 ^ j ∧ k = .int .i64 (q : Int) ∧ n ≤ 2 * (q : Int)) (fun k => (intOf k).toNat)
    case atStart => exact ⟨62, 4611686018427387904, by decide, by decide, rfl, by omega⟩
    case round =>
      obtain ⟨j, q, hj, hq, rfl, hn⟩ := hrel
      have hq1 : 1 ≤ q := by rw [hq]; exact Nat.one_le_two_pow
      have hq2 : q ≤ 4611686018427387904 := by rw [hq]; exact Nat.pow_le_pow_right (n := 2) (j := 62) (by decide) hj
      by_cases hk : (q : Int) ≥ n
      · have hd : decide ((q : Int) ≥ n) = true := by simpa using hk
        obtain ⟨i, hi⟩ : ∃ i, j = i + 1 := ⟨j - 1, by
          cases j with
          | zero => rw [Nat.pow_zero] at hq; omega
          | succ j => rfl⟩
        have HQ : Hid (q / 2 = 2 ^ i) := by show _ = _; rw [hq, hi, Nat.pow_succ]; omega
        have HE : Hid (q = 2 * (q / 2)) := by show _ = _; rw [HQ.out, hq, hi, Nat.pow_succ]; omega
        clear hq
        go_wp2
        go_round
        case rel => exact ⟨i, q / 2, by omega, HQ.out, by go_num, by have := HE.out; omega⟩
        case measure => simp [intOf]; omega
      · have hd : decide ((q : Int) ≥ n) = false := by simpa using hk
        have HS : Hid ((splitN n.toNat : Int) = (q : Int)) := by
          show _ = _
          rw [splitN_of (j := j) (by omega) (by rw [Nat.pow_succ]; omega), hq]
        clear hq
        go_wp2
        go_ret
        exact ⟨ret_int HS.out.symm, rfl⟩
end Go.Proofs.YtbednfacipphhaaDoor
namespace Go.Proofs.YtbednfacipphhaaDoor
open Go.RowKit
set_option linter.unusedVariables false

set_option maxHeartbeats 400000 in
theorem first_any (w : World) :
    Calls Tryd.prog 101 #[] w fun e w' => e = .returned (.agg st0.cells) ∧ Below w.heap.size w w' := by
  go_enter Tryd.func101, Tryd.ntmps101
  go_wp2
  exact bodyPost_ret (v := .agg #[.int .u32 1779033703, .int .u32 3144134277, .int .u32 1013904242, .int .u32 2773480762, .int .u32 1359893119, .int .u32 2600822924, .int .u32 528734635, .int .u32 1541459225]) (by simp [results, Tryd.results101, go_sem]) rfl ⟨rfl, (Below.refl _ _).alloc (Nat.le_refl _) _⟩

/-- what stays while Block goes on, the state's row being l -/
structure BK (N : Nat) (l : List Int) (b : List Int) (w wr : World) : Prop where
  low : Below N w wr
  size : N + 3 ≤ wr.heap.size
  st : wr.heap[N]? = some (.cells (uv l).toArray 103 (0, 0))
  inp : wr.heap[N + 1]? = some (.cells (bv b).toArray 105 (0, 0))
  res : ∃ cs : Array Value, cs.size = 8 ∧ wr.heap[N + 1 + 1]? = some (.cells cs 103 (0, 0))
  tab : Tab wr
set_option maxRecDepth 100000 in
theorem BK.drewN {N : Nat} {l b : List Int} {w wr : World} (h : BK N l b w wr) (n : Nat) : BK N l b w (wr.drewN n) := ⟨below_drewN h.low n, h.size, h.st, h.inp, h.res, h.tab.drewN n⟩
set_option maxRecDepth 100000 in
theorem BK.step {N : Nat} {l b : List Int} {w wr w1 : World} (h : BK N l b w wr) (hb : Below wr.heap.size wr w1) : BK N l b w w1 := by
  have hs := h.size
  exact ⟨h.low.trans (hb.mono (by omega)), Nat.le_trans h.size hb.size, by rw [hb.block _ (by omega)]; exact h.st, by rw [hb.block _ (by omega)]; exact h.inp,
    by obtain ⟨cs, h1, h2⟩ := h.res; exact ⟨cs, h1, by rw [hb.block _ (by omega)]; exact h2⟩, h.tab.below hb⟩
set_option maxRecDepth 100000 in
theorem BK.store {N : Nat} {l b : List Int} {w wr : World} (h : BK N l b w wr) (hN : 0 < N) (j : Nat) (x : Int) : BK N (l.set j x) b w (wr.setCell ⟨N, j, none⟩ (.int .u32 x)) := by
  have hlow : Below N wr (wr.setCell ⟨N, j, none⟩ (.int .u32 x)) := (Below.refl N wr).setCell (p := ⟨N, j, none⟩) (Nat.le_refl _) _
  refine ⟨h.low.trans hlow, Nat.le_trans h.size hlow.size, ?_, by rw [heap_setCell_other _ _ _ _ (by show N + 1 ≠ N; omega)]; exact h.inp, ?_, ?_⟩
  · rw [heap_setCell_same _ _ _ _ _ _ h.st, uv_set]
  · obtain ⟨cs, h1, h2⟩ := h.res
    exact ⟨cs, h1, by rw [heap_setCell_other _ _ _ _ (by show N + 1 + 1 ≠ N; omega)]; exact h2⟩
  · exact ⟨Nat.lt_of_lt_of_le h.tab.pos hlow.size, fun i hi => (hlow.cell (p := ⟨0, i, none⟩) hN).trans (h.tab.cell i hi)⟩
set_option maxRecDepth 100000 in
theorem range_row {w : World} {g : Nat} {cs : Array Value} {t : TypeId} (h : w.heap[g]? = some (.cells cs t (0, 0))) : w.rangeAt g 0 cs.toList := by
  have := World.rangeAt_of_block h 0 cs.size
  simpa using this
set_option maxRecDepth 100000 in
theorem BK.held {N : Nat} {s : St} {b : List Int} {w w' : World} (h : BK N s.list b w w') : w'.cell? ⟨N, 0, none⟩ = some (.int .u32 s.a) ∧ w'.cell? ⟨N, 1, none⟩ = some (.int .u32 s.b) ∧ w'.cell? ⟨N, 2, none⟩ = some (.int .u32 s.c) ∧ w'.cell? ⟨N, 3, none⟩ = some (.int .u32 s.d) ∧ w'.cell? ⟨N, 4, none⟩ = some (.int .u32 s.e) ∧ w'.cell? ⟨N, 5, none⟩ = some (.int .u32 s.f) ∧ w'.cell? ⟨N, 6, none⟩ = some (.int .u32 s.g) ∧ w'.cell? ⟨N, 7, none⟩ = some (.int .u32 s.h) ∧ w'.rangeAt (N + 1) 0 (bv b) ∧ BK N s.list b w w' := by
  obtain ⟨c0, c1, c2, c3, c4, c5, c6, c7⟩ := st_cell (s := s) h.st
  exact ⟨c0, c1, c2, c3, c4, c5, c6, c7, range_row h.inp, h⟩
set_option maxRecDepth 100000 in
theorem held_tab {N : Nat} {s : St} {b : List Int} {w w' : World} {p0 p1 p2 p3 p4 p5 p6 p7 p8 : Prop} (h : p0 ∧ p1 ∧ p2 ∧ p3 ∧ p4 ∧ p5 ∧ p6 ∧ p7 ∧ p8 ∧ BK N s.list b w w') : Tab w' := h.2.2.2.2.2.2.2.2.2.tab
set_option maxRecDepth 100000 in
theorem held_step {N : Nat} {s : St} {b : List Int} {w w' w1 : World} {p0 p1 p2 p3 p4 p5 p6 p7 p8 : Prop} (h : p0 ∧ p1 ∧ p2 ∧ p3 ∧ p4 ∧ p5 ∧ p6 ∧ p7 ∧ p8 ∧ BK N s.list b w w') (hb : Below w'.heap.size w' w1) : w1.cell? ⟨N, 0, none⟩ = some (.int .u32 s.a) ∧ w1.cell? ⟨N, 1, none⟩ = some (.int .u32 s.b) ∧ w1.cell? ⟨N, 2, none⟩ = some (.int .u32 s.c) ∧ w1.cell? ⟨N, 3, none⟩ = some (.int .u32 s.d) ∧ w1.cell? ⟨N, 4, none⟩ = some (.int .u32 s.e) ∧ w1.cell? ⟨N, 5, none⟩ = some (.int .u32 s.f) ∧ w1.cell? ⟨N, 6, none⟩ = some (.int .u32 s.g) ∧ w1.cell? ⟨N, 7, none⟩ = some (.int .u32 s.h) ∧ w1.rangeAt (N + 1) 0 (bv b) ∧ BK N s.list b w w1 := (h.2.2.2.2.2.2.2.2.2.step hb).held
/-- the row behind j sums -/
def addP (l m : List Int) (j : Nat) : List Int := (List.zipWith ad l m).take j ++ l.drop j
set_option maxRecDepth 100000 in
theorem addP_zero (l m : List Int) : addP l m 0 = l := by simp [addP]
set_option maxRecDepth 100000 in
theorem addP_length (l m : List Int) (j : Nat) (h : l.length = m.length) (hj : j ≤ l.length) : (addP l m j).length = l.length := by
  unfold addP; rw [List.length_append, List.length_take, List.length_zipWith, List.length_drop]; omega
set_option maxRecDepth 100000 in
theorem addP_get (l m : List Int) (j : Nat) (h : l.length = m.length) (hj : j < l.length) : (addP l m j).getD j 0 = l.getD j 0 := by
  unfold addP
  rw [List.getD_eq_getElem?_getD, List.getElem?_append_right (by rw [List.length_take, List.length_zipWith]; omega), List.length_take, List.length_zipWith, List.getElem?_drop, List.getD_eq_getElem?_getD]
  congr 2; omega
set_option maxRecDepth 100000 in
theorem addP_set (l m : List Int) (j : Nat) (h : l.length = m.length) (hj : j < l.length) : (addP l m j).set j (ad (l.getD j 0) (m.getD j 0)) = addP l m (j + 1) := by
  unfold addP
  have e : l.drop j = l.getD j 0 :: l.drop (j + 1) := by rw [List.getD_eq_getElem?_getD, List.getElem?_eq_getElem hj]; exact List.drop_eq_getElem_cons hj
  have hz : j < (List.zipWith ad l m).length := by rw [List.length_zipWith]; omega
  rw [List.set_append_right _ _ (by rw [List.length_take]; omega), List.length_take, Nat.min_eq_left (Nat.le_of_lt hz), Nat.sub_self, e, List.set_cons_zero, List.take_succ_eq_append_getElem hz, List.append_assoc]
  congr 1
  rw [List.getElem_zipWith, List.getD_eq_getElem?_getD, List.getD_eq_getElem?_getD, List.getElem?_eq_getElem hj, List.getElem?_eq_getElem (by omega)]
  rfl
set_option maxRecDepth 100000 in
theorem addP_end (s t : St) : addP s.list t.list 8 = (s.plus t).list := rfl
set_option maxRecDepth 100000 in
theorem idx_u32 (tl : List Int) (j : Nat) (hl : tl.length = 8) (hj : j < 8) (w : World) : (Instr.index 103 (.agg (uv tl).toArray) (.int .i64 (j : Int))).run Tryd.prog w = .ok (.int .u32 (tl.getD j 0)) w := by
  have hx := uv_getD tl j (by omega)
  simp only [Instr.index, asIntOf, go_sem, part]
  simp
  rw [if_pos hj, hx, List.getD_eq_getElem?_getD]; rfl
set_option maxRecDepth 100000 in
theorem oct_info : (Tryd.prog.info? 103).map (·.size) = some 8 := by kernel_rfl
set_option maxRecDepth 100000 in
theorem in_info : (Tryd.prog.info? 105).map (·.size) = some 64 := by kernel_rfl

set_option maxRecDepth 100000 in
set_option maxHeartbeats 1000000 in
theorem block_any (s : St) (b : List Int) (w : World) (hs : StU s) (hb : Byt b) (hl : b.length = 64) (htab : Tab w) :
    Calls Tryd.prog 102 #[.agg s.cells, .agg (bv b).toArray] w fun e w' => e = .returned (.agg (blk s b).cells) ∧ Below w.heap.size w w' := by
  have HL : Hid (b.length = 64) := hl
  have hNp : Hid (0 < w.heap.size) := htab.pos
  clear hl
  go_enter Tryd.func102, Tryd.ntmps102
  go_wp2
  obtain ⟨N, hN⟩ : ∃ N, N = w.heap.size := ⟨_, rfl⟩
  have hkept : BK N s.list b w (((w.alloc (.cells s.cells 103)).alloc (.cells (bv b).toArray 105)).alloc (.cells #[.int .u32 0, .int .u32 0, .int .u32 0, .int .u32 0, .int .u32 0, .int .u32 0, .int .u32 0, .int .u32 0] 103)) := by
    subst hN
    have hlow : Below w.heap.size w (((w.alloc (.cells s.cells 103)).alloc (.cells (bv b).toArray 105)).alloc (.cells #[.int .u32 0, .int .u32 0, .int .u32 0, .int .u32 0, .int .u32 0, .int .u32 0, .int .u32 0, .int .u32 0] 103)) := (((Below.refl _ _).alloc (Nat.le_refl _) _).alloc (by simp) _).alloc (by simp; omega) _
    refine ⟨hlow, by simp, ?_, ?_, ⟨#[.int .u32 0, .int .u32 0, .int .u32 0, .int .u32 0, .int .u32 0, .int .u32 0, .int .u32 0, .int .u32 0], rfl, ?_⟩, htab.below hlow⟩
    · rw [heap_alloc_old _ _ (by simp; omega), heap_alloc_old _ _ (by simp), heap_alloc_new]; rfl
    · rw [heap_alloc_old _ _ (by simp), show w.heap.size + 1 = (w.alloc (.cells s.cells 103)).heap.size from by simp, heap_alloc_new]
    · rw [show w.heap.size + 1 + 1 = ((w.alloc (.cells s.cells 103)).alloc (.cells (bv b).toArray 105)).heap.size from by simp, heap_alloc_new]
  generalize ((w.alloc (.cells s.cells 103)).alloc (.cells (bv b).toArray 105)).alloc (.cells #[.int .u32 0, .int .u32 0, .int .u32 0, .int .u32 0, .int .u32 0, .int .u32 0, .int .u32 0, .int .u32 0] 103) = W0 at hkept ⊢
  rw [← hN]
  have HN : Hid (N = w.heap.size) := hN
  clear hN htab
  have r1 : W0.rangeAt (N + 1) 0 (bv b) := range_row hkept.inp
  have hu' := Tryd.underlying105
  have hi' : (Tryd.prog.info? 105).map (·.size) = some (bv b).length := by rw [bv_length, HL.out]; exact in_info
  have hn' : (bv b).length = 64 := by rw [bv_length, HL.out]
  have ho' := bv_one b
  have h0 := hkept.drewN 1
  go_region_held3 (fun w' => w'.cell? ⟨N, 0, none⟩ = some (.int .u32 s.a) ∧ w'.cell? ⟨N, 1, none⟩ = some (.int .u32 s.b) ∧ w'.cell? ⟨N, 2, none⟩ = some (.int .u32 s.c) ∧ w'.cell? ⟨N, 3, none⟩ = some (.int .u32 s.d) ∧ w'.cell? ⟨N, 4, none⟩ = some (.int .u32 s.e) ∧ w'.cell? ⟨N, 5, none⟩ = some (.int .u32 s.f) ∧ w'.cell? ⟨N, 6, none⟩ = some (.int .u32 s.g) ∧ w'.cell? ⟨N, 7, none⟩ = some (.int .u32 s.h) ∧ w'.rangeAt (N + 1) 0 (bv b) ∧ BK N s.list b w w') (first | (exact h0.held) | (exact held_step (by assumption) hb1)) (first | (go_at_call 108; refine (sched_any b _ hb HL.out).mono ?_; rintro e1 w1 ⟨rfl, hb1⟩) | (go_at_call 107; refine (mix_any s b _ hs hb ?_).mono ?_; (exact held_tab (by assumption)); rintro e1 w1 ⟨rfl, hb1⟩))
  rename_i hHeld
  have hkp := hHeld.2.2.2.2.2.2.2.2.2
  clear hHeld hb1 h0 hkept r1
  have HtL : Hid ((rnds b s 64).cells = (uv (rnds b s 64).list).toArray) := rfl
  have HtB : Bx (Ending.returned (.agg (s.plus (rnds b s 64)).cells) = .returned (.agg (blk s b).cells)) := ⟨rfl⟩
  have htu := rnds_u b hs 64
  generalize rnds b s 64 = t at HtL HtB htu ⊢
  clear hu' hi' hn' ho'
  have hN0 : 0 < N := by rw [HN.out]; exact hNp.out
  have HLL : Hid (s.list.length = t.list.length) := rfl
  have HAE : Hid (addP s.list t.list 8 = (s.plus t).list) := rfl
  have hsu := St.list_u hs
  have htlu := St.list_u htu
  rw [HtL.out]
  have HL8 : Hid (s.list.length = 8) := rfl
  have HPC : Hid ((s.plus t).cells = (uv (s.plus t).list).toArray) := rfl
  generalize s.list = sl at *
  generalize t.list = tl at *
  go_wp2
  go_loopw [11] (fun i wr => ∃ j : Nat, j ≤ 8 ∧ i = .int .i64 j ∧ BK N (addP sl tl j) b w wr) (fun i _ => 8 - (intOf i).toNat)
  case atStart => exact ⟨0, Nat.zero_le _, rfl, by rw [addP_zero]; exact hkp⟩
  case round =>
    clear hkp
    obtain ⟨j, hj, rfl, hkp⟩ := hrel
    by_cases hlt : j < 8
    · have hcl := uv_cell hkp.st j (by rw [addP_length _ _ _ HLL.out (by rw [HL8.out]; exact hj), HL8.out]; exact hlt)
      rw [addP_get _ _ _ HLL.out (by rw [HL8.out]; exact hlt)] at hcl
      have hfr := frozen_of_row _ _ j _ _ hkp.st
      have hst := hkp.store hN0 j (ad (sl.getD j 0) (tl.getD j 0))
      rw [addP_set _ _ _ HLL.out (by rw [HL8.out]; exact hlt)] at hst
      have hx := idx_u32 tl j (by rw [← HLL.out, HL8.out]) hlt
      have us := hsu.getD j
      have ut := htlu.getD j
      have s1 : IntKind.u32.wrap (sl.getD j 0 + tl.getD j 0) = ad (sl.getD j 0) (tl.getD j 0) := IntKind.wrap_u32' _
      have j0 : (0 : Int) ≤ (j : Int) := by omega
      have j8 : (j : Int) < 8 := by omega
      generalize sl.getD j 0 = x at hcl us s1 hst
      generalize tl.getD j 0 = y at hx ut s1 hst
      go_wp2
      go_roundw
      case rel => exact ⟨j + 1, by omega, by go_num, hst⟩
      case measure => simp [intOf]; omega
    · have HJ : Hid (j = 8) := by show j = 8; omega
      obtain ⟨cs, hcs, hres⟩ := hkp.res
      have ht := there_row hres
      rw [hcs] at ht
      have hst : wr.heap[N]? = some (.cells (s.plus t).cells 103 (0, 0)) := by
        have := hkp.st
        rw [HJ.out, HAE.out, ← HPC.out] at this
        exact this
      have hbl : Below w.heap.size w wr := by rw [← HN.out]; exact hkp.low
      have hNs : w.heap.size ≤ N + 1 + 1 := by have := HN.out; omega
      have HST : Bx ((wr.setCells (N + 1 + 1) 0 (s.plus t).cells.toList).heap[N + 1 + 1]? = some (.cells (s.plus t).cells 103 (0, 0))) := ⟨heap_stored (vs := (s.plus t).cells) hres (by rw [hcs]; rfl)⟩
      have HBS : Bx (Below w.heap.size w (wr.setCells (N + 1 + 1) 0 (s.plus t).cells.toList)) := ⟨below_setCells hbl (N + 1 + 1) hNs (s.plus t).cells.toList 0⟩
      have HTH : Bx (wr.there (N + 1 + 1) 0 8) := ⟨ht⟩
      have HRW : Bx (wr.heap[N]? = some (.cells (s.plus t).cells 103 (0, 0))) := ⟨hst⟩
      clear hkp hres ht hbl hNs hcs hst HAE HPC
      go_wp2_with (refine wpList_load_row rfl 103 (.tmp 2) rfl N rfl 103 (s.plus t).cells (0, 0) _ HRW.out Tryd.underlying103 rfl (cells_info _) ?_; refine wpList_store_mid rfl 103 (.tmp 4) (.tmp 22) rfl (N + 1 + 1) 0 (s.plus t).cells rfl rfl HTH.out (cells_info _) (cells_one _) ?_)
      exact bodyPost_ret (v := .agg (s.plus t).cells) (results_cell_row rfl _ _ (N + 1 + 1) 103 (s.plus t).cells (0, 0) _ rfl HST.out Tryd.underlying103 rfl (cells_info _)) rfl ⟨HtB.out, HBS.out⟩
end Go.Proofs.YtbednfacipphhaaDoor
