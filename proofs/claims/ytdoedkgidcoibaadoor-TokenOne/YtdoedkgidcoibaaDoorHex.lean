/- What Hex answers, the program's and the document's. -/
import Derived.Test.YtdoedkgidcoibaaDoorTBase
import Derived.Test.YtdoedkgidcoibaaDoorSma
import Derived.Laws.BitsAllLaws
import Derived.Laws.IdiomStrings
namespace Go.Proofs.YtdoedkgidcoibaaDoor
open Go.RowKit
set_option linter.unusedVariables false

/-- the sixteen letters -/
def hexS : ByteArray := ⟨#[48, 49, 50, 51, 52, 53, 54, 55, 56, 57, 97, 98, 99, 100, 101, 102]⟩
/-- the letter of a number below sixteen -/
def hx (n : Nat) : Int := sb hexS n
/-- the text that a list of bytes is -/
def strOf (l : List Int) : ByteArray := ⟨(l.map fun c => UInt8.ofNat c.toNat).toArray⟩
/-- the letters of bytes -/
def hexL (b : List Int) : List Int := b.flatMap fun c => [hx (c.toNat / 16), hx (c.toNat % 16)]
theorem hx_byt (n : Nat) : 0 ≤ hx n ∧ hx n ≤ 255 := sb_byt _ _
theorem hexL_append (a b : List Int) : hexL (a ++ b) = hexL a ++ hexL b := by simp [hexL]
theorem hexL_length (b : List Int) : (hexL b).length = 2 * b.length := by
  induction b with
  | nil => rfl
  | cons c b ih => rw [show c :: b = [c] ++ b from rfl, hexL_append, List.length_append, ih]; simp [hexL]; omega
theorem hexL_byt (b : List Int) : Byt (hexL b) := by
  intro c hc
  simp only [hexL, List.mem_flatMap] at hc
  obtain ⟨d, _, h⟩ := hc
  simp at h
  rcases h with rfl | rfl <;> exact hx_byt _
theorem hexL_more (b : List Int) (k : Nat) (h : k < b.length) : hexL (b.take (k + 1)) = hexL (b.take k) ++ [hx ((b.getD k 0).toNat / 16), hx ((b.getD k 0).toNat % 16)] := by
  rw [take_succ_getD b k h, hexL_append]; simp [hexL]
theorem strOf_append (a b : List Int) : strOf (a ++ b) = strOf a ++ strOf b := by
  apply ba_ext; simp [strOf]
theorem strOf_size (a : List Int) : (strOf a).size = a.length := by rw [Lib.size_eq]; simp [strOf]
theorem fold_push : ∀ (l : List Int) (r : ByteArray), l.foldl (fun r n => r.push (UInt8.ofNat n.toNat)) r = ⟨r.data ++ (l.map fun c => UInt8.ofNat c.toNat).toArray⟩
  | [], r => by simp
  | b :: l, r => by rw [List.foldl_cons, fold_push l]; simp [ByteArray.push]
/-- 'string(b)' of bytes that read as a list -/
theorem Bts.str {w : World} {a : Option Addr} {len cap : Nat} {l : List Int} (h : Bts w a len cap l) : (convert 22 9 (.slice a len cap)).run Tryd.prog w = .ok (.string (strOf l)) w := by
  rw [run_convert_bytes_string w _ _ 5 a len cap Tryd.underlying22 Tryd.underlying5 Tryd.underlying9]
  cases a with
  | none =>
    have h1 := h.nil rfl
    have h2 := h.le_cap
    have h3 := h.len_eq
    obtain rfl : l = [] := List.eq_nil_of_length_eq_zero (by omega)
    rfl
  | some ad =>
    have hl := run_loadCells_list (P := Tryd.prog) w ad (bv l) h.cells
    rw [bv_length, h.len_eq] at hl
    rw [run_bytesToString w ad len cap l hl, fold_push]
    have he0 : ByteArray.empty.data = #[] := rfl
    rw [he0]
    simp [strOf]

theorem hex_piece : ∀ n : Fin 16, hexS.extract n.val (n.val + 1) = strOf [hx n.val] := by decide +kernel
theorem letter_any (n : Nat) (w : World) (h : n < 16) : Calls Tryd.prog 45 #[.int .i64 n] w fun e w' => e = .returned (.string (strOf [hx n])) ∧ w' = w := by
  have hp := hex_piece ⟨n, h⟩
  have HP : Hid (hexS.extract n (n + 1) = strOf [hx n]) := hp
  clear hp
  have h0 : (n : Int) + 1 ≤ 16 := by omega
  go_enter Tryd.func45, Tryd.ntmps45
  go_wp2
  go_ret
  exact ⟨ret_str HP.out, rfl⟩
theorem hex_parts {y : Int} (h : 0 ≤ y ∧ y ≤ 255) : ∃ p q : Nat, y / 16 = (p : Int) ∧ bits .and .u8 y 15 = (q : Int) ∧ y.toNat / 16 = p ∧ y.toNat % 16 = q ∧ p < 16 ∧ q < 16 := by
  refine ⟨y.toNat / 16, y.toNat % 16, by omega, ?_, rfl, rfl, by omega, by omega⟩
  rw [u8_and y 15 (by omega) (by omega) (by decide) (by decide)]
  have := Nat.and_two_pow_sub_one_eq_mod y.toNat 4
  simp only [show (2 : Nat) ^ 4 - 1 = 15 from rfl] at this
  rw [show (15 : Int).toNat = 15 from rfl, this]
theorem two_rel {B n : Nat} {w wr w1 : World} {l : List Int} {c d : Int} {v v' : Value} {o : Obj} (hb : Below B w wr) (hB : B ≤ wr.heap.size)
    (hown : wr.ownsRow B 5 1 v n (bv l)) (h1 : w1.ownsRow B 5 1 v' (n + 2) (bv l ++ [.int .u8 c, .int .u8 d])) (hg : (wr.alloc o).grownBy w1 v.ownBlock) :
    w1.ownsRow B 5 1 v' (n + 2) (bv (l ++ [c, d])) ∧ Below B w w1 := by
  refine ⟨by rw [bv_append]; exact h1, ?_⟩
  refine (hb.alloc hB o).grown hg (by simp; omega) ?_
  intro g hg'
  exact (hown.lt g hg').1
set_option maxHeartbeats 400000 in
theorem hex_any (a : Option Addr) (len cap : Nat) (b : List Int) (w : World) (hb : Bts w a len cap b) (hs : len ≤ 1099511627776) :
    Calls Tryd.prog 27 #[.slice a len cap] w fun e w' => e = .returned (.string (strOf (hexL b))) ∧ Below w.heap.size w w' := by
  obtain ⟨i0, hi, hz0, hz1, hz2⟩ := info_parts Tryd.info5
  have HL : Hid (b.length = len) := hb.len_eq
  go_enter Tryd.func27, Tryd.ntmps27
  go_wp2_with (at_make; refine wpList_make_own _ rfl _ _ 22 rfl w.heap.size 5 i0 (.int .u8 0) 1 Tryd.underlying22 hi hz0 hz1 _ _ _ (2 * len) rfl rfl (by omega) (by rw [hz2]; omega) (by unfold maxLen; omega) (Nat.le_refl _) ?_)
  intro w1 hown1 hg1
  have hb1 : Below w.heap.size w w1 := (Below.refl _ _).grown hg1 (Nat.le_refl _) (by intro k hk; cases hk)
  clear hg1
  go_wp2
  go_loopw [3, 12] (fun v i wr => ∃ k : Nat, k ≤ len ∧ i = .int .i64 k ∧ wr.ownsRow w.heap.size 5 1 v (2 * k) (bv (hexL (b.take k))) ∧ Below w.heap.size w wr) (fun _ i _ => len - (intOf i).toNat)
  case atStart => exact ⟨0, Nat.zero_le _, rfl, hown1, hb1⟩
  case round =>
    obtain ⟨k, hk, rfl, hown, hlow⟩ := hrel
    by_cases hlt : k < len
    · have hbk := hb.below hlow
      obtain ⟨bb, bo, rfl, _, hc⟩ := hbk.spot (by omega)
      have hcell := hc k hlt
      have HM : Hid (hexL (b.take (k + 1)) = hexL (b.take k) ++ [hx ((b.getD k 0).toNat / 16), hx ((b.getD k 0).toNat % 16)]) := hexL_more b k (by rw [HL.out]; exact hlt)
      have hy := hb.byt.getD k
      generalize b.getD k 0 = y at hcell HM hy
      clear hc hbk
      have hji : (k : Int) < (len : Int) := by omega
      have hsz := hlow.size
      obtain ⟨p, q, e1, e2, e3, e4, hp, hq⟩ := hex_parts hy
      rw [e3, e4] at HM
      have hpi : (p : Int) < 16 := by omega
      have hqi : (q : Int) < 16 := by omega
      have hse : ∀ h, ((((⟨#[48, 49, 50, 51, 52, 53, 54, 55, 56, 57, 97, 98, 99, 100, 101, 102]⟩ : ByteArray)[p]'h).toNat : Nat) : Int) = hx p := fun h => sb_eq hexS p h
      have hsq : ∀ h, ((((⟨#[48, 49, 50, 51, 52, 53, 54, 55, 56, 57, 97, 98, 99, 100, 101, 102]⟩ : ByteArray)[q]'h).toNat : Nat) : Int) = hx q := fun h => sb_eq hexS q h
      clear e3 e4
      go_wp2
      go_region_law (refine step_append_own rfl _ _ 22 rfl w.heap.size 5 i0 (.int .u8 0) 1 1 Tryd.underlying22 hi hz0 hz1 hz2 rfl (by decide) _ _ _ rfl (owns_new hown rfl _) ⟨wr.heap.size, 0, none⟩ 2 2 [.int .u8 (hx p), .int .u8 (hx q)] rfl rfl (cell_two_new _ _ _ _) (bv_one [hx p, hx q]) (by unfold maxLen; omega) (by omega) (by simp; omega) ?_; intro v' w1 hown' hgrow)
      all_goals
        have R := two_rel (wr := wr.drew) (below_drewN hlow 1) hsz hown hown' hgrow
        rw [← HM.out] at R
        clear hown' hgrow hown hlow hcell HM hse hsq
        go_wp2
        go_roundw
        case rel => exact ⟨k + 1, by omega, by go_num, R.1, R.2⟩
        case measure => simp [intOf]; omega
    · have HJ : Hid (k = len) := by show _ = _; omega
      have hc : ¬ (k : Int) < (len : Int) := by omega
      rw [List.take_of_length_le (by rw [HL.out, HJ.out]; exact Nat.le_refl _)] at hown
      obtain ⟨ao, cc, rfl, hbts⟩ := Bts.of_owns hown (hexL_byt b)
      have hrun := hbts.str
      clear hown hbts
      generalize hS : strOf (hexL b) = S at hrun
      have HS : Hid (S = strOf (hexL b)) := hS.symm
      clear hS
      go_wp2
      go_ret
      exact ⟨ret_str HS.out, hlow⟩
end Go.Proofs.YtdoedkgidcoibaaDoor
