/- For every slice of bytes the law ShaChain returns true and the slice reads as it did (P2.1, P2.2): the sum of a text of up to 3000 bytes is what Block makes of it and of what stands behind it, 64 bytes at a time. The package's table is as the program's text lays it (the card ties it). -/
import Derived.Test.YtegcoilkdnmhoaaDoorDoor
import Derived.Test.YtegcoilkdnmhoaaDoorShaSum
import Derived.Test.YtegcoilkdnmhoaaDoorRefSum
import Derived.Test.YtegcoilkdnmhoaaDoorCut
import Derived.Test.YtegcoilkdnmhoaaDoorGet
import Derived.Test.YtegcoilkdnmhoaaDoorNobody
import Derived.WalkKit
import Derived.ShutString
import Derived.ChangeOld
import Derived.Below
namespace Go.Proofs.YtegcoilkdnmhoaaDoor.shaChain
open Go.ChangeShapes Go.WideShapes Go.ChangeAt Go.RowKit
open Go.ChangeMaps (open_string shut_string)
set_option linter.unusedVariables false

theorem laidOut : laidOutB Tryd.prog = true := by kernel_rfl

/-- WHAT THE WALK IS TOLD OF A SLICE OF INTEGERS THAT CAME IN: it is nil; or it leads to a row of 'cap' cells, the numbers 'zs' (the first 'len' are its elements, the rest its spare room), each fitting its kind. -/
def IsRow (k : IntKind) (w : World) (a : Option Addr) (len cap : Nat) (zs : List Int) : Prop :=
  (a = none ∧ len = 0 ∧ cap = 0 ∧ zs = []) ∨
  ∃ x, a = some x ∧ len ≤ cap ∧ cap ≤ maxLen ∧ zs.length = cap ∧ (∀ i, i < zs.length → w.cell? (x.add i) = some (.int k (zs.getD i 0))) ∧ ∀ n ∈ zs, (Lit.int k n).wf = true


theorem getV_putL (x : Int) (n : Nat) (h0 : 0 ≤ x) : getV (putL x n) = x % 256 ^ n := by
  suffices H : ∀ (n : Nat) (acc : Int), (putL x n).foldl (fun y c => 256 * y + c) acc = acc * 256 ^ n + x % 256 ^ n by
    have := H n 0; unfold getV; rw [this]; omega
  intro n
  induction n with
  | zero => intro acc; simp [putL, Int.emod_one]
  | succ n ih =>
    intro acc
    show (putL x n).foldl _ (256 * acc + sh x n % 256) = _
    rw [ih, Int.pow_succ]
    unfold sh
    have hp : (0 : Int) < 256 ^ n := Int.pow_pos (by decide)
    generalize (256 : Int) ^ n = P at *
    have e1 := Int.emod_add_mul_ediv x P
    have e2 := Int.emod_add_mul_ediv (x / P) 256
    have r1 := Int.emod_nonneg x (Int.ne_of_gt hp)
    have r2 := Int.emod_lt_of_pos x hp
    have hx : x = (x % P + P * (x / P % 256)) + (P * 256) * (x / P / 256) := by
      conv => lhs; rw [← e1, ← e2]
      rw [Int.mul_add, Int.mul_assoc, Int.add_assoc]
    have q0 : 0 ≤ x / P % 256 := Int.emod_nonneg _ (by decide)
    have q1 : x / P % 256 ≤ 255 := by have := Int.emod_lt_of_pos (x / P) (show (0 : Int) < 256 by decide); omega
    have m0 : 0 ≤ P * (x / P % 256) := Int.mul_nonneg (Int.le_of_lt hp) q0
    have m1 : P * (x / P % 256) ≤ P * 255 := Int.mul_le_mul_of_nonneg_left q1 (Int.le_of_lt hp)
    have hm : x % (P * 256) = x % P + P * (x / P % 256) := by
      conv => lhs; rw [hx]
      rw [Int.add_mul_emod_self_left, Int.emod_eq_of_lt (by omega) (by omega)]
    rw [hm, Int.add_mul, Int.mul_comm 256 acc, Int.mul_assoc, Int.mul_comm 256 P, Int.mul_comm (x / P % 256) P]
    omega
theorem dig_piece (l : List Int) (j : Nat) (hj : j < l.length) : ((digL l).drop (4 * j)).take 4 = putL (l.getD j 0) 4 := by
  induction l generalizing j with
  | nil => simp at hj
  | cons x r ih =>
    have e4 : (putL x 4).length = 4 := putL_length x 4
    cases j with
    | zero =>
      simp only [digL, Nat.mul_zero, List.drop_zero]
      rw [List.take_append_of_le_length (by omega), List.take_of_length_le (by omega)]
      simp
    | succ j =>
      have := ih j (by simpa using hj)
      simp only [digL]
      rw [List.drop_append, List.drop_eq_nil_of_le (by omega), List.nil_append, e4, show 4 * (j + 1) - 4 = 4 * j from by omega, this]
      simp
theorem dig_slice2 (M j : Nat) (hj : j < 8) (w : World) : (Instr.sliceAt 26 (.pointer (some ⟨M, 0, none⟩)) (some (.int .i64 (4 * (j : Int)))) (some (.int .i64 (4 * (j : Int) + 4))) none).run Tryd.prog w = .ok (.slice (some ⟨M, 4 * j, none⟩) 4 (32 - 4 * j)) w := by
  have hlen : Tryd.prog.arrayLen 26 = 32 := by kernel_rfl
  have ht : Tryd.prog.underlying 26 = some (.array (Tryd.prog.arrayLen 26) (Tryd.prog.elem 26)) := by kernel_rfl
  have hsz : (sizeOf (Tryd.prog.elem 26)).run Tryd.prog w = .ok 1 w := by kernel_rfl
  rw [run_sliceAt_array_lh w 26 ⟨M, 0, none⟩ ht .i64 .i64 _ _ (by omega) (by omega) (by rw [hlen]; omega), hsz, hlen]
  have e1 : (4 * (j : Int)).toNat = 4 * j := by omega
  have e2 : (4 * (j : Int) + 4).toNat = 4 * j + 4 := by omega
  simp only [Result.andThen_ok, slicedAt, e1, e2]
  rw [if_neg (by omega), Addr.add_lit]
  simp
theorem one_slice (O : Nat) (w : World) : (Instr.sliceAt 36 (.pointer (some ⟨O, 0, none⟩)) none none none).run Tryd.prog w = .ok (.slice (some ⟨O, 0, none⟩) 64 64) w := by
  have hlen : Tryd.prog.arrayLen 36 = 64 := by kernel_rfl
  have ht : Tryd.prog.underlying 36 = some (.array (Tryd.prog.arrayLen 36) (Tryd.prog.elem 36)) := by kernel_rfl
  have hsz : (sizeOf (Tryd.prog.elem 36)).run Tryd.prog w = .ok 1 w := by kernel_rfl
  rw [run_sliceAt_array_all w 36 ⟨O, 0, none⟩ ht, hsz, hlen]
  simp only [Result.andThen_ok, slicedAt]
  rw [if_neg (by decide), Addr.add_lit]
/-- what stays while the law goes on, the numbers being t -/
structure CH (N gA S cap : Nat) (all : List Int) (t : St) (w wr : World) : Prop where
  low : Below N w wr
  row : Bts wr (some ⟨gA, 0, none⟩) all.length cap all
  st : wr.heap[S]? = some (.cells t.cells 35 (0, 0))
  nga : N ≤ gA
  gas : gA < S
theorem CH.lt {N gA S cap : Nat} {all : List Int} {t : St} {w wr : World} (h : CH N gA S cap all t w wr) : S < wr.heap.size := (Array.getElem?_eq_some_iff.1 h.st).1
theorem CH.step {N gA S cap : Nat} {all : List Int} {t : St} {w wr w1 : World} (h : CH N gA S cap all t w wr) {B : Nat} (hb : Below B wr w1) (hB : S < B) : CH N gA S cap all t w w1 := by
  have h1 := h.nga; have h2 := h.gas
  exact ⟨h.low.trans (hb.mono (by omega)), bts_lowB h.row hb (by omega), by rw [hb.block _ hB]; exact h.st, h1, h2⟩
theorem CH.store {N gA S cap : Nat} {all : List Int} {t t' : St} {w wr : World} (h : CH N gA S cap all t w wr) : CH N gA S cap all t' w (wr.setCells S 0 t'.cells.toList) := by
  have h1 := h.nga; have h2 := h.gas
  have hb : Below S wr (wr.setCells S 0 t'.cells.toList) := below_setCells (Below.refl _ _) S (Nat.le_refl _) _ _
  exact ⟨h.low.trans (hb.mono (by omega)), bts_lowB h.row hb (by omega), heap_stored (vs := t'.cells) h.st rfl, h1, h2⟩
theorem ch_min (n k : Nat) {l : List Value} (h : l.length = 64) (hk : 64 * k + 64 ≤ n) : l.length = Nat.min (n - (64 * (k : Int)).toNat) 64 := by
  rw [h, show Nat.min (n - (64 * (k : Int)).toNat) 64 = min (n - (64 * (k : Int)).toNat) 64 from rfl]; omega
theorem ch_splice (c : List Int) (h : c.length = 64) : splice (bv (List.replicate 64 0)) 0 (bv c) = bv c := by
  unfold splice
  rw [List.take_zero, List.nil_append, List.drop_eq_nil_of_le (by rw [bv_length, bv_length, h]; simp), List.append_nil]

set_option maxRecDepth 100000 in
set_option maxHeartbeats 1000000 in
theorem walk (a0 : Option Addr) (len0 cap0 : Nat) (z0 : List Int) (w : World) (w0 : IsRow .u8 w a0 len0 cap0 z0) (htab : Tab w) :
    Calls Tryd.prog 8 #[.slice a0 len0 cap0] w fun e w' => e = .returned (.bool true) ∧ Below w.heap.size w w' := by
  have hrow : Bts w a0 len0 cap0 (z0.take len0) := Bts.of_row w0
  generalize z0.take len0 = l at hrow
  clear w0
  obtain ⟨i0, hi, hz0, hz1, hz2⟩ := info_parts Tryd.info5
  go_enter Tryd.func8, Tryd.ntmps8
  go_wp2_with fail
  refine (cut_any a0 len0 cap0 3000 l _ hrow (by decide)).mono ?_
  rintro e w' ⟨⟨len, rfl, hl⟩, rfl⟩
  have hlen : len ≤ 3000 := by have := hl.len_eq; rw [List.length_take] at this; omega
  generalize l.take 3000 = m at hl
  clear hrow
  have hml := hl.len_eq
  have HL0 : Hid (Bts w a0 len cap0 m) := hl
  go_wp2_with fail
  refine (copy_any _ _ _ m _ hl (by omega)).mono ?_
  rintro e w1 ⟨v1, rfl, hown1, hb1⟩
  have hl1 := hl.below hb1
  go_wp2_with fail
  refine (pad_any len _ (by omega) (by omega)).mono ?_
  rintro e w2 ⟨v2, rfl, hown2, hb2⟩
  have hlow2 := hb1.trans (hb2.mono hb1.size)
  have hl2 := hl1.below hb2
  have hown1b := owns_below hown1 hb2
  have hpl : 9 ≤ (padL (len : Int)).length ∧ (padL (len : Int)).length ≤ 72 := by rw [padL_length]; have := padZ_le len; omega
  have hpb := padL_byt len
  have HALL : Bx (m ++ padL (len : Int) = allL m) := ⟨by unfold allL; rw [hml]⟩
  have H64 : Hid ((m ++ padL (len : Int)).length % 64 = 0) := by show _ = _; rw [HALL.out]; exact allL_64 m
  generalize padL (len : Int) = p at hown2 hpl hpb HALL H64 ⊢
  obtain ⟨hpl1, hpl2⟩ := hpl
  have hsz1 := hb1.size
  have hsz2 := hb2.size
  obtain ⟨g2, cap2, rfl, hg2, _⟩ := owns_form hown2 (by omega)
  obtain ⟨a2, c2, e2, hm2⟩ := Bts.of_owns hown2 hpb
  cases e2
  have hcells := hm2.cells
  have hlp : (bv p).length = p.length * 1 := by rw [bv_length]; omega
  clear hown1 hown2 hm2 hb1 hb2 hl1 hl
  go_wp2_with (at_builtin; refine wpList_append_own _ rfl _ _ 22 rfl w.heap.size 5 i0 (.int .u8 0) 1 1 Tryd.underlying22 hi hz0 hz1 hz2 rfl (by decide) _ _ _ rfl hown1b ⟨g2, 0, none⟩ p.length cap2 (bv p) rfl hlp hcells (bv_one p) (by unfold maxLen; omega) (by omega) (by omega) ?_)
  intro v3 w3 hown3 hgrow _
  have hlow3 : Below w.heap.size w w3 := hlow2.grown hgrow hlow2.size (by intro k hk; exact (hown1b.lt k hk).1)
  obtain ⟨gA, capA, rfl, hgA, hgA'⟩ := owns_form hown3 (by omega)
  have hallb : Byt (m ++ p) := hl2.byt.append hpb
  rw [← bv_append] at hown3
  obtain ⟨a3, c3, e3, hm3⟩ := Bts.of_owns hown3 hallb
  cases e3
  have hall : (m ++ p).length = len + p.length := by rw [List.length_append, hml]
  rw [← hall] at hm3 ⊢
  have hn9 : len + 9 ≤ (m ++ p).length := by omega
  have hn72 : (m ++ p).length ≤ len + 72 := by omega
  clear hown1b hgrow hown3 hcells hlow2 hlp hall hl2
  generalize m ++ p = all at hallb hm3 HALL H64 hn9 hn72 ⊢
  have hb64 : ((all.length : Int) % 64 != 0) = false := by have := H64.out; simp; omega
  have hlt9 : ¬ ((all.length : Int) < (len : Int) + 9) := by omega
  have hgt72 : ¬ ((len : Int) + 72 < (all.length : Int)) := by omega
  go_wp2_with fail
  refine (first_any _).mono ?_
  rintro e w4 ⟨rfl, hb4⟩
  have hm4 := hm3.below hb4
  have hlow4 := hlow3.trans (hb4.mono hlow3.size)
  have hsz4 := hb4.size
  have hb5 : Below w4.heap.size w4 ((w4.alloc (.cells #[.int .u32 0, .int .u32 0, .int .u32 0, .int .u32 0, .int .u32 0, .int .u32 0, .int .u32 0, .int .u32 0] 35)).setCells w4.heap.size 0 st0.cells.toList) := below_setCells ((Below.refl _ _).alloc (Nat.le_refl _) _) _ (Nat.le_refl _) _ _
  have hCH : CH w.heap.size gA w4.heap.size capA all st0 w ((w4.alloc (.cells #[.int .u32 0, .int .u32 0, .int .u32 0, .int .u32 0, .int .u32 0, .int .u32 0, .int .u32 0, .int .u32 0] 35)).setCells w4.heap.size 0 st0.cells.toList) :=
    ⟨hlow4.trans (hb5.mono hlow4.size), bts_lowB hm4 hb5 (by omega), heap_stored (vs := st0.cells) (heap_alloc_new _ _) rfl, hgA, by omega⟩
  clear hb5 hm3 hm4 hlow3 hlow4 hb4 hb64 hlt9 hgt72
  simp only []
  go_step
  refine wpList_run rfl (.pointer (some ⟨w4.heap.size, 0, none⟩)) (w4.alloc (.cells #[.int .u32 0, .int .u32 0, .int .u32 0, .int .u32 0, .int .u32 0, .int .u32 0, .int .u32 0, .int .u32 0] 35)) (by kernel_rfl) ?_
  refine wpList_store_mid rfl 35 (.tmp 4) (.tmp 40) rfl w4.heap.size 0 st0.cells rfl rfl (there_new _ _ _) (cells_info _) (cells_one _) ?_
  generalize (w4.alloc (.cells #[.int .u32 0, .int .u32 0, .int .u32 0, .int .u32 0, .int .u32 0, .int .u32 0, .int .u32 0, .int .u32 0] 35)).setCells w4.heap.size 0 st0.cells.toList = w5 at hCH ⊢
  generalize w4.heap.size = S at hCH ⊢
  generalize st0.cells = fst
  obtain ⟨N, hN⟩ : ∃ N, N = w.heap.size := ⟨_, rfl⟩
  rw [← hN] at hCH
  have HN : Hid (N = w.heap.size) := hN
  clear hN hi hz0 hz1 hz2 hsz4 hgA hgA' hsz1 hsz2 hg2
  have hn3 : all.length ≤ 3072 := by omega
  go_wp2
  go_loopw [5] (fun i wr => ∃ k : Nat, 64 * k ≤ all.length ∧ i = .int .i64 (64 * (k : Int)) ∧ CH N gA S capA all (chn all k) w wr) (fun i _ => all.length + 64 - (intOf i).toNat)
  case atStart => exact ⟨0, Nat.zero_le _, rfl, hCH⟩
  case round =>
    clear hCH
    obtain ⟨k, hk, rfl, hr⟩ := hrel
    have HU : Hid (StU (chn all k)) := chn_u all k
    obtain ⟨wo, hwo⟩ : ∃ wo, wo = wr := ⟨_, rfl⟩
    subst hwo
    by_cases hlt : 64 * k < all.length
    · have hlt2 : 64 * k + 64 ≤ all.length := by have := H64.out; omega
      have HC : Bx (chn all (k + 1) = blk (chn all k) ((all.drop (64 * k)).take 64)) := ⟨rfl⟩
      have hcl : ((all.drop (64 * k)).take 64).length = 64 := by rw [List.length_take, List.length_drop]; omega
      have hcb : Byt ((all.drop (64 * k)).take 64) := fun c hc => hallb c (List.mem_of_mem_drop (List.mem_of_mem_take hc))
      have hrb := hr.row
      generalize chn all k = t at hr HU HC
      have hOS := hr.lt
      have hgas := hr.gas
      have hcap := hrb.le_cap
      have hrow0 : (wo.alloc (.cells #[.int .u8 0, .int .u8 0, .int .u8 0, .int .u8 0, .int .u8 0, .int .u8 0, .int .u8 0, .int .u8 0, .int .u8 0, .int .u8 0, .int .u8 0, .int .u8 0, .int .u8 0, .int .u8 0, .int .u8 0, .int .u8 0, .int .u8 0, .int .u8 0, .int .u8 0, .int .u8 0, .int .u8 0, .int .u8 0, .int .u8 0, .int .u8 0, .int .u8 0, .int .u8 0, .int .u8 0, .int .u8 0, .int .u8 0, .int .u8 0, .int .u8 0, .int .u8 0, .int .u8 0, .int .u8 0, .int .u8 0, .int .u8 0, .int .u8 0, .int .u8 0, .int .u8 0, .int .u8 0, .int .u8 0, .int .u8 0, .int .u8 0, .int .u8 0, .int .u8 0, .int .u8 0, .int .u8 0, .int .u8 0, .int .u8 0, .int .u8 0, .int .u8 0, .int .u8 0, .int .u8 0, .int .u8 0, .int .u8 0, .int .u8 0, .int .u8 0, .int .u8 0, .int .u8 0, .int .u8 0, .int .u8 0, .int .u8 0, .int .u8 0, .int .u8 0] 36)).heap[wo.heap.size]? = some (.cells (bv (List.replicate 64 0)).toArray 36 (0, 0)) := heap_alloc_new _ _
      have hb0 : Below wo.heap.size wo (wo.alloc (.cells #[.int .u8 0, .int .u8 0, .int .u8 0, .int .u8 0, .int .u8 0, .int .u8 0, .int .u8 0, .int .u8 0, .int .u8 0, .int .u8 0, .int .u8 0, .int .u8 0, .int .u8 0, .int .u8 0, .int .u8 0, .int .u8 0, .int .u8 0, .int .u8 0, .int .u8 0, .int .u8 0, .int .u8 0, .int .u8 0, .int .u8 0, .int .u8 0, .int .u8 0, .int .u8 0, .int .u8 0, .int .u8 0, .int .u8 0, .int .u8 0, .int .u8 0, .int .u8 0, .int .u8 0, .int .u8 0, .int .u8 0, .int .u8 0, .int .u8 0, .int .u8 0, .int .u8 0, .int .u8 0, .int .u8 0, .int .u8 0, .int .u8 0, .int .u8 0, .int .u8 0, .int .u8 0, .int .u8 0, .int .u8 0, .int .u8 0, .int .u8 0, .int .u8 0, .int .u8 0, .int .u8 0, .int .u8 0, .int .u8 0, .int .u8 0, .int .u8 0, .int .u8 0, .int .u8 0, .int .u8 0, .int .u8 0, .int .u8 0, .int .u8 0, .int .u8 0] 36)) := (Below.refl _ _).alloc (Nat.le_refl _) _
      have k1 : (64 : Int) * (k : Int) < (all.length : Int) := by omega
      go_wp2
      generalize wo.alloc (.cells #[.int .u8 0, .int .u8 0, .int .u8 0, .int .u8 0, .int .u8 0, .int .u8 0, .int .u8 0, .int .u8 0, .int .u8 0, .int .u8 0, .int .u8 0, .int .u8 0, .int .u8 0, .int .u8 0, .int .u8 0, .int .u8 0, .int .u8 0, .int .u8 0, .int .u8 0, .int .u8 0, .int .u8 0, .int .u8 0, .int .u8 0, .int .u8 0, .int .u8 0, .int .u8 0, .int .u8 0, .int .u8 0, .int .u8 0, .int .u8 0, .int .u8 0, .int .u8 0, .int .u8 0, .int .u8 0, .int .u8 0, .int .u8 0, .int .u8 0, .int .u8 0, .int .u8 0, .int .u8 0, .int .u8 0, .int .u8 0, .int .u8 0, .int .u8 0, .int .u8 0, .int .u8 0, .int .u8 0, .int .u8 0, .int .u8 0, .int .u8 0, .int .u8 0, .int .u8 0, .int .u8 0, .int .u8 0, .int .u8 0, .int .u8 0, .int .u8 0, .int .u8 0, .int .u8 0, .int .u8 0, .int .u8 0, .int .u8 0, .int .u8 0, .int .u8 0] 36) = w6 at hrow0 hb0 ⊢
      obtain ⟨O, hO⟩ : ∃ O, O = wo.heap.size := ⟨_, rfl⟩
      rw [← hO] at hrow0 hb0 hOS ⊢
      clear hO
      have hsl := one_slice O
      have k2 : (64 : Int) * (k : Int) ≤ (all.length : Int) := by omega
      have k3 : (64 : Int) * (k : Int) ≤ (capA : Int) := by omega
      have k0 : (0 : Int) ≤ 64 * (k : Int) := by omega
      have kc : ¬ capA = (64 * (k : Int)).toNat := by omega
      have hr6 := hr.step hb0 hOS
      have hpos : Hid (0 < (bv ((all.drop (64 * k)).take 64)).length → some (⟨O, 0, none⟩ : Addr) = some ⟨O, 0, none⟩ ∧ ∃ ad, some (⟨gA, (64 * (k : Int)).toNat, none⟩ : Addr) = some ad ∧ ∀ j v, (bv ((all.drop (64 * k)).take 64))[j]? = some v → w6.drew.cell? (ad.add j) = some v) := by
        intro _
        refine ⟨rfl, _, rfl, fun j v hv => ?_⟩
        have hj : j < 64 := by have := (List.getElem?_eq_some_iff.1 hv).1; rw [bv_length, hcl] at this; exact this
        have hcl2 := row_byte hr6.row (64 * k + j) (by omega)
        rw [show (64 * (k : Int)).toNat = 64 * k from by omega, Addr.add_lit]
        show w6.cell? _ = _
        rw [hcl2, ← piece_getD all (64 * k) j hj]
        unfold bv at hv
        rw [List.getElem?_map, List.getElem?_eq_getElem (by omega)] at hv
        rw [← hv, List.getD_eq_getElem?_getD, List.getElem?_eq_getElem (by omega)]
        rfl
      generalize (all.drop (64 * k)).take 64 = c at HC hcl hcb hpos
      have hmin := ch_min all.length k (l := bv c) (by rw [bv_length, hcl]) hlt2
      have HM : Hid ((bv c).length = Nat.min (all.length - (64 * (k : Int)).toNat) 64) := hmin
      have HSP := ch_splice c hcl
      replace HSP : Hid (splice (bv (List.replicate 64 0)) 0 (bv c) = bv c) := HSP
      have HFT : Hid (0 + (bv c).length ≤ (bv (List.replicate 64 0)).length) := by show _ ≤ _; rw [bv_length, bv_length, hcl]; simp
      clear hmin
      go_region_held3 (fun _ => True) (trivial) ((refine step_copy_splice rfl (.tmp 47) (.tmp 50) 22 22 rfl 5 Tryd.underlying22 Tryd.size5 _ _ _ _ _ _ (by rfl) (by rfl) O 0 (bv (List.replicate 64 0)) 36 hrow0 (bv c) HM.out hpos.out HFT.out (bv_one _) O w6.drew (Below.refl _ _) (Nat.le_refl _) ?_; intro w7 hg7 hb7))
      have hrow7 := hg7.out
      rw [HSP.out] at hrow7
      have hr7 := (hr6.step (B := O) (w1 := w7) (⟨hb7.os, hb7.tape, hb7.output, hb7.size, hb7.block⟩) hOS)
      obtain ⟨c0, c1, c2, c3, c4, c5, c6, c7⟩ := st_cell hr7.st
      have HRow : Bx (w7.heap[O]? = some (.cells (bv c).toArray 36 (0, 0))) := ⟨hrow7⟩
      have HI : Bx ((Tryd.prog.info? 36).map (·.size) = some (bv c).toArray.size) := ⟨by rw [List.size_toArray, bv_length, hcl]; exact in_info⟩
      have ht7 : Tab w7 := htab.below (by rw [← HN.out]; exact hr7.low)
      clear hg7 hrow7 hrow0 hb0 hb7 hpos HM HSP HFT hsl kc hr6 hr hrb
      go_wp2_with (refine wpList_load_row rfl 36 (.tmp 6) rfl O rfl 36 (bv c).toArray (0, 0) _ HRow.out Tryd.underlying36 rfl HI.out ?_)
      refine (block_any t c _ HU.out hcb hcl ht7).mono ?_
      rintro e w8 ⟨rfl, hb8⟩
      have hr8 := hr7.step hb8 hr7.lt
      have HTH : Bx (w8.there S 0 8) := ⟨there_row hr8.st⟩
      have HW : Bx (CH N gA S capA all (chn all (k + 1)) w (w8.setCells S 0 (blk t c).cells.toList)) := ⟨by rw [HC.out]; exact hr8.store⟩
      clear c0 c1 c2 c3 c4 c5 c6 c7 hr7 hr8 hb8 ht7
      go_wp2_with (refine wpList_store_mid rfl 35 (.tmp 4) (.tmp 54) rfl S 0 (blk t c).cells rfl rfl HTH.out (cells_info _) (cells_one _) ?_; generalize w8.setCells S 0 (blk t c).cells.toList = w9 at HW ⊢)
      go_roundw
      case rel => exact ⟨k + 1, by omega, by go_num, HW.out⟩
      case measure => simp [intOf]; omega
    · have HK : Hid (k = all.length / 64) := by have := H64.out; show k = _; omega
      have HD : Bx (sumL m = digL (chn all k).list) := ⟨by rw [HK.out]; unfold sumL; rw [← HALL.out]⟩
      generalize chn all k = t at hr HU HD
      have hlowo : Below w.heap.size w wo := by rw [← HN.out]; exact hr.low
      have hlo := HL0.out.below hlowo
      have hto := htab.below hlowo
      go_wp2_with fail
      refine (sum_any _ _ _ m _ hlo hto (by omega)).mono ?_
      rintro e w8 ⟨rfl, hb8⟩
      have hst8 := (hr.step hb8 hr.lt).st
      have hlow8 := hlowo.trans (hb8.mono hlowo.size)
      have hS8 := Nat.lt_of_lt_of_le hr.lt hb8.size
      have hD32 : (bv (sumL m)).toArray.size = 32 := by rw [List.size_toArray, bv_length, sumL_length]
      have HO2 : Bx ((bv (sumL m)).toArray.all (·.oneCell') = true) := ⟨all_oneCell_toArray (bv_one _)⟩
      have hsl32 : (sumL m).length = 32 := sumL_length m
      have hsb : Byt (sumL m) := digL_byt _
      have hpc : ∀ j, j < 8 → ((sumL m).drop (4 * j)).take 4 = putL (t.list.getD j 0) 4 := fun j hj => by rw [HD.out]; exact dig_piece t.list j hj
      have HPC : Bx (∀ j, j < 8 → ((sumL m).drop (4 * j)).take 4 = putL (t.list.getD j 0) 4) := ⟨hpc⟩
      clear HD hpc hr hlo hto hlowo hb8
      generalize sumL m = dg at hD32 HO2 hsl32 hsb HPC ⊢
      have hb9 : Below w8.heap.size w8 ((w8.alloc (.cells z32 26)).setCells w8.heap.size 0 (bv dg).toArray.toList) := below_setCells ((Below.refl _ _).alloc (Nat.le_refl _) _) _ (Nat.le_refl _) _ _
      have hd9 : ((w8.alloc (.cells z32 26)).setCells w8.heap.size 0 (bv dg).toArray.toList).heap[w8.heap.size]? = some (.cells (bv dg).toArray 26 (0, 0)) := heap_stored (vs := (bv dg).toArray) (heap_alloc_new _ _) (by rw [hD32, zero_size])
      have hst9 := (hb9.block S hS8).trans hst8
      have hlow9 := hlow8.trans (hb9.mono hlow8.size)
      have hI9 : (Tryd.prog.info? 26).map (·.size) = some (bv dg).toArray.size := by rw [hD32]; exact dig_info
      have hth9 : (w8.alloc (.cells z32 26)).there w8.heap.size 0 (bv dg).toArray.size := by rw [hD32, ← zero_size]; exact there_new _ _ _
      simp only []
      go_step
      refine wpList_runOp rfl (.alloc 26) rfl (.pointer (some ⟨w8.heap.size, 0, none⟩)) (w8.alloc (.cells z32 26)) (by kernel_rfl) ?_
      refine wpList_store_mid rfl 26 (.tmp 7) (.tmp 56) rfl w8.heap.size 0 (bv dg).toArray rfl rfl hth9 hI9 HO2.out ?_
      have hMlt : w8.heap.size < ((w8.alloc (.cells z32 26)).setCells w8.heap.size 0 (bv dg).toArray.toList).heap.size := (Array.getElem?_eq_some_iff.1 hd9).1
      generalize (w8.alloc (.cells z32 26)).setCells w8.heap.size 0 (bv dg).toArray.toList = w9 at hd9 hst9 hlow9 hMlt ⊢
      generalize w8.heap.size = M at hd9 hMlt ⊢
      clear hb9 hst8 hlow8 hS8 hI9 hth9 HO2 hD32
      have htl := St.list_u HU.out
      have hstl : w9.heap[S]? = some (.cells (uv t.list).toArray 35 (0, 0)) := hst9
      have hL8 : t.list.length = 8 := rfl
      clear hst9
      generalize t.list = tl at HPC htl hstl hL8
      have hcel : ∀ j, j < dg.length → w9.cell? ⟨M, j, none⟩ = some (.int .u8 (dg.getD j 0)) := fun j hj => bv_cell hd9 j hj
      have HCEL : Hid (∀ j, j < dg.length → w9.cell? ⟨M, j, none⟩ = some (.int .u8 (dg.getD j 0))) := hcel
      have HST : Hid (w9.heap[S]? = some (.cells (uv tl).toArray 35 (0, 0))) := hstl
      clear hcel hstl hd9
      have ht9 := htab.below hlow9
      generalize (bv dg).toArray = DD
      go_wp2
      go_loopw [8] (fun i wr => ∃ j : Nat, j ≤ 8 ∧ i = .int .i64 j ∧ wr = w9) (fun i _ => 8 - (intOf i).toNat)
      case atStart => exact ⟨0, Nat.zero_le _, rfl, rfl⟩
      case round =>
        obtain ⟨j, hj, rfl, rfl⟩ := hrel
        by_cases hjl : j < 8
        · have hbt : Bts wr (some ⟨M, 4 * j, none⟩) 4 (32 - 4 * j) ((dg.drop (4 * j)).take 4) := Bts.piece (n := 32) HCEL.out hsb hMlt (4 * j) 4 (32 - 4 * j) (by omega) (by omega) (by unfold maxLen; omega)
          have hcS := uv_cell HST.out j (by omega)
          have hu := htl.getD j
          have HG : Hid (getV ((dg.drop (4 * j)).take 4) = tl.getD j 0) := by
            show _ = _
            rw [HPC.out j hjl, getV_putL _ 4 hu.1]
            exact Int.emod_eq_of_lt hu.1 hu.2
          have hsl := dig_slice2 M j hjl
          generalize tl.getD j 0 = x at hcS hu HG
          have hu1 := hu.1
          have hu2 := hu.2
          have j0 : (0 : Int) ≤ (j : Int) := by omega
          have j8 : (j : Int) < 8 := by omega
          go_wp2_with fail
          refine (refget_some _ 4 _ _ _ hbt (by decide) (by decide)).mono ?_
          rintro e w' ⟨rfl, rfl⟩
          rw [HG.out]
          clear hbt hsl
          go_wp2
          go_roundw
          case rel => exact ⟨j + 1, by omega, by go_num, by trivial⟩
          case measure => simp [intOf]; omega
        · go_wp2_with fail
          refine (lives_any _ ht9).mono ?_
          rintro e w10 ⟨rfl, hb10⟩
          go_wp2
          go_ret
          exact ⟨rfl, hlow9.trans (hb10.mono hlow9.size)⟩

/-- what the walk gives, for every argument and every world that holds the table -/
theorem contract (H : Type) (enc : TypeId × Value → H) (W : World) (base : Nat) (args : Array Value) (ds gs : List (DataW H)) (before : List MemPlace)
    (hval0 : ∀ (j : Nat) t v, Tryd.f8.params[j]? = some t → args[j]? = some v → Value.okWide Tryd.prog W .any base t v)
    (hW : DataW.Whole enc Tryd.prog Tryd.f8.params.toList Rows.shaChainSpec.vars false W args.toList ds gs before) (hL : laidMetH Tryd.prog Rows.shaChainRow.laid W) :
    Calls Tryd.prog 8 args W fun e W' => ∃ v, e = .returned v ∧ Rows.shaChainSpec.post enc Tryd.prog Tryd.f8 false true false false W args v W' := by
  have htab := tab_of_laid hL
  have hval : ∀ (j : Nat) t v, Tryd.f8.params[j]? = some t → args[j]? = some v → Value.okWide Tryd.prog W .any base t v := hval0
  have hW' := hW
  obtain ⟨p, q, hA0, hV, rfl, hfz, hnd⟩ := hW
  have hA : DataW.TrodAll enc Tryd.prog W 0 (fun _ => true) true Tryd.f8.params.toList args.toList ds p := hA0
  rw [Tryd.params8] at hA hval
  obtain ⟨v0, vs0, d0, ds0, p0, q0, hargs, rfl, rfl, h0, r0⟩ := trodAll_cons hA
  obtain ⟨rfl, rfl, rfl⟩ := trodAll_nil r0
  obtain rfl : args = #[v0] := by cases args; simp_all
  obtain ⟨rfl, rfl⟩ := trodVars_none hV
  obtain ⟨a0, len0, cap0, rfl⟩ := okWide_slice Tryd.underlying22 (hval 0 22 v0 rfl rfl)
  have k0 := h0
  have lt0 : ∀ x ∈ p0, x.block < W.heap.size := by obtain ⟨m, hm⟩ := k0; exact DataW.trod_lt m _ _ _ hm
  obtain ⟨z0, w0⟩ : ∃ zs, IsRow .u8 W a0 len0 cap0 zs := by
    obtain ⟨fuel, hf⟩ := h0
    rcases open_ints Tryd.underlying22 Tryd.underlying5 (by kernel_rfl) hf with ⟨hcs, _⟩ | ⟨x, l, c, zs, hcs, _, hl, hm, hz, _, hcell, hwz⟩
    · simp [Value.cells] at hcs
      obtain ⟨rfl, rfl, rfl⟩ := hcs
      exact ⟨[], .inl ⟨rfl, rfl, rfl, rfl⟩⟩
    · simp [Value.cells] at hcs
      obtain ⟨rfl, rfl, rfl⟩ := hcs
      exact ⟨zs, .inr ⟨_, rfl, hl, hm, by simpa using hz, hcell, hwz⟩⟩
  clear hA0 hval0
  refine (walk a0 len0 cap0 z0 W w0 htab).mono fun e W' ⟨he, bel⟩ => ?_
  subst he
  exact ⟨_, rfl, _, _, _, [], _, [], hW', trodAll_mk1 (shut_bool Tryd.underlying4 _), (trodAll_cons_mk (Below.trod laidOut (by kernel_rfl) (of_decide_eq_true (by kernel_rfl)) k0 bel lt0) trodAll_mk0), rfl, bel.frame _, fun h => by cases h⟩

set_option maxRecDepth 100000 in
theorem laid_met (os : Os) : laidMet Tryd.prog Rows.shaChainRow.laid (({ World.holding Tryd.prog os ⟨#[], #[], []⟩ with heap := (World.holding Tryd.prog os ⟨#[], #[], []⟩).heap.setIfInBounds 0 (.cells (uv keyL).toArray 53) } : World).forCall (fun _ _ => 0) ⟨#[], #[.slice none 0 0], []⟩).memory :=
  laidMet_of_run' 8 (by kernel_rfl) (by kernel_rfl)
theorem reads (os : Os) {H : Type} (enc : TypeId × Value → H) : ∃ places, DataW.whole enc Tryd.prog (({ World.holding Tryd.prog os ⟨#[], #[], []⟩ with heap := (World.holding Tryd.prog os ⟨#[], #[], []⟩).heap.setIfInBounds 0 (.cells (uv keyL).toArray 53) } : World).forCall (fun _ _ => 0) ⟨#[], #[.slice none 0 0], []⟩).memory Tryd.f8.params.toList Rows.shaChainSpec.vars false (#[.slice none 0 0] : Array Value).toList 8 = some ([.nil], [], places) :=
  ⟨[], by kernel_rfl⟩
set_option maxRecDepth 100000 in
theorem lifted (os : Os) (started : os.Started) (H : Type) (enc : TypeId × Value → H) (F : Stop.Interp) :
    ReturnsInHanded {} Tryd.checked os 8 .any ((OpenSpec.ofChange Rows.shaChainSpec).preRow enc Tryd.prog Tryd.f8 Rows.shaChainRow.domain false Rows.shaChainRow.laid) (((OpenSpec.ofChange Rows.shaChainSpec).at F).post enc Tryd.prog Tryd.f8 false true false false) := by
  obtain ⟨places, hx⟩ := reads os enc
  refine returnsInHanded_of_row (C := Tryd.checked) (s := OpenSpec.ofChange Rows.shaChainSpec) own started (by kernel_rfl) Tryd.func8
    (witness_row_at (enc := enc) (C := Tryd.checked) false ({ World.holding Tryd.prog os ⟨#[], #[], []⟩ with heap := (World.holding Tryd.prog os ⟨#[], #[], []⟩).heap.setIfInBounds 0 (.cells (uv keyL).toArray 53) } : World) #[.slice none 0 0] rfl (by kernel_rfl) (by kernel_rfl) (by kernel_rfl)
      (OpenSpec.preRow_of_cond 8 hx (by kernel_rfl) (fun k hk => by cases hk) (by kernel_rfl) (laid_met os))) ?_
  intro W base args ds gs before hval hW _ _ _ hL _ _
  exact contract H enc W base args ds gs before hval hW hL
theorem said : Rows.ShaChainSaid :=
  OpenClaim.holds_of_cond 8 Tryd.f8 rfl rfl rfl rfl rfl rfl rfl ⟨rfl, rfl, rfl, rfl, rfl⟩ rfl rfl rfl rfl rfl (by kernel_rfl) Tryd.func8 (by kernel_rfl)
    (of_decide_eq_true (by kernel_rfl)) (by unfold Func.isWrapper; first | (rw [if_pos (by decide +kernel)]; kernel_rfl) | (rw [if_neg (by decide +kernel)]; exact ⟨rfl, rfl⟩))
    (fun os started H enc _ F => by rw [OpenClaim.pre_eq_preRow]; exact lifted os started H enc F)
theorem plain (f : FuncId) (fn : Func) (hf : Tryd.pinned.checked.prog.funcNamed "inquest/inquestlaw02.ShaChain" = some f) (hfn : Tryd.pinned.checked.prog.funcs[f]? = some fn) :
    false = Tryd.pinned.checked.prog.looks [] ∧ ∀ (j : Nat) t, fn.params[j]? = some t → Tryd.pinned.checked.prog.wantsStandIn t = false := by
  obtain rfl : f = 8 := Option.some.inj ((show Tryd.prog.funcNamed "inquest/inquestlaw02.ShaChain" = some 8 by kernel_rfl).symm.trans hf) |>.symm
  obtain rfl : fn = Tryd.f8 := (Option.some.inj (Tryd.func8.symm.trans hfn)).symm
  refine ⟨by kernel_rfl, fun j t ht => ?_⟩
  rw [Tryd.params8] at ht
  have hall : ([22].all fun u => !Tryd.prog.wantsStandIn u) = true := by kernel_rfl
  have hm : t ∈ [22] := by simpa using Array.mem_of_getElem? ht
  exact (show Tryd.prog.wantsStandIn t = false by simpa using List.all_eq_true.1 hall t hm)
/-- the tied card -/
theorem card : Rows.ShaChainCardSaid :=
  Claim7.holds_tied_plain_at .later [] _ _ _ _ said (fun _ h => by cases h) (by kernel_rfl) (fun _ h => by cases h) shaChain_row_tie rfl ⟨rfl, rfl⟩ (by kernel_rfl) rfl plain (by kernel_rfl)
end Go.Proofs.YtegcoilkdnmhoaaDoor.shaChain
namespace Go.Proofs.YtegcoilkdnmhoaaDoor
theorem shaChain_holds : Rows.ShaChainCardSaid := shaChain.card
#print axioms shaChain_holds
end Go.Proofs.YtegcoilkdnmhoaaDoor
