/- What a hash's Sum answers. -/
import Derived.Test.YtbednfacipphhaaDoorAuav
namespace Go.Proofs.YtbednfacipphhaaDoor
open Go.RowKit
set_option linter.unusedVariables false

/-- the bytes of the first j numbers, and noughts up to 32 bytes -/
def digP (l : List Int) (j : Nat) : List Int := digL (l.take j) ++ List.replicate (32 - 4 * j) 0
set_option maxRecDepth 100000 in
theorem digL_app (l m : List Int) : digL (l ++ m) = digL l ++ digL m := by
  induction l with
  | nil => rfl
  | cons x r ih => simp [digL, ih]
set_option maxRecDepth 100000 in
theorem digP_length (l : List Int) (j : Nat) (hl : l.length = 8) (hj : j ≤ 8) : (digP l j).length = 32 := by
  unfold digP; rw [List.length_append, digL_length, List.length_take, List.length_replicate]; omega
set_option maxRecDepth 100000 in
theorem digP_zero (l : List Int) : digP l 0 = List.replicate 32 0 := rfl
set_option maxRecDepth 100000 in
theorem digP_end (l : List Int) (hl : l.length = 8) : digP l 8 = digL l := by
  unfold digP; rw [List.take_of_length_le (by omega)]; simp
set_option maxRecDepth 100000 in
theorem digP_splice (l : List Int) (j : Nat) (hl : l.length = 8) (hj : j < 8) : splice (bv (digP l j)) (4 * j) (bv (putL (l.getD j 0) 4)) = bv (digP l (j + 1)) := by
  have e1 : (digL (l.take j)).length = 4 * j := by rw [digL_length, List.length_take]; omega
  have e2 : digL (l.take (j + 1)) = digL (l.take j) ++ putL (l.getD j 0) 4 := by
    rw [take_succ_getD l j (by omega), digL_app]; simp [digL]
  unfold splice
  have h1 : (bv (digP l j)).take (4 * j) = bv (digL (l.take j)) := by
    unfold bv; rw [← List.map_take]; unfold digP; rw [List.take_append_of_le_length (by omega), List.take_of_length_le (by omega)]
  have h2 : (bv (digP l j)).drop (4 * j + (bv (putL (l.getD j 0) 4)).length) = bv (List.replicate (32 - 4 * (j + 1)) 0) := by
    rw [bv_length, putL_length]
    unfold bv; rw [← List.map_drop]; unfold digP
    rw [List.drop_append, List.drop_eq_nil_of_le (by omega), e1, List.nil_append, List.drop_replicate]
    congr 2; omega
  rw [h1, h2, ← List.append_assoc, ← bv_append, ← bv_append]
  unfold digP; rw [e2]
set_option maxRecDepth 100000 in
theorem dig_slice (M j : Nat) (hj : j < 8) (w : World) : (Instr.sliceAt 30 (.pointer (some ⟨M, 0, none⟩)) (some (.int .i64 (4 * (j : Int)))) none none).run Tryd.prog w = .ok (.slice (some ⟨M, 4 * j, none⟩) (32 - 4 * j) (32 - 4 * j)) w := by
  have hlen : Tryd.prog.arrayLen 30 = 32 := by kernel_rfl
  have ht : Tryd.prog.underlying 30 = some (.array (Tryd.prog.arrayLen 30) (Tryd.prog.elem 30)) := by kernel_rfl
  have hsz : (sizeOf (Tryd.prog.elem 30)).run Tryd.prog w = .ok 1 w := by kernel_rfl
  rw [run_sliceAt_array_l w 30 ⟨M, 0, none⟩ ht .i64 _ (by omega) (by rw [hlen]; omega), hsz, hlen]
  have e1 : (4 * (j : Int)).toNat = 4 * j := by omega
  simp only [Result.andThen_ok, slicedAt, e1]
  rw [if_neg (by omega), Addr.add_lit]
  simp
/-- the cells of a hash that no call made -/
def hz : Array Value := (Value.bool false :: (uv (List.replicate 8 0) ++ (bv (List.replicate 64 0) ++ [Value.int .i64 0]))).toArray
set_option maxRecDepth 100000 in
theorem hz_size : hz.size = 74 := rfl
/-- behind the first steps of Sum: the answer's place, and the hash once more -/
structure SumUp (w W : World) (A : Array Value) : Prop where
  low : Below w.heap.size w W
  res : ∃ cs : Array Value, cs.size = 32 ∧ W.heap[w.heap.size]? = some (.cells cs 30 (0, 0))
  row : W.heap[w.heap.size + 1]? = some (.cells A 137 (0, 0))
  size : w.heap.size + 2 ≤ W.heap.size
set_option maxRecDepth 100000 in
theorem sum_start (w : World) (A : Array Value) (hA : A.size = 74) : SumUp w (((w.alloc (.cells #[.int .u8 0, .int .u8 0, .int .u8 0, .int .u8 0, .int .u8 0, .int .u8 0, .int .u8 0, .int .u8 0, .int .u8 0, .int .u8 0, .int .u8 0, .int .u8 0, .int .u8 0, .int .u8 0, .int .u8 0, .int .u8 0, .int .u8 0, .int .u8 0, .int .u8 0, .int .u8 0, .int .u8 0, .int .u8 0, .int .u8 0, .int .u8 0, .int .u8 0, .int .u8 0, .int .u8 0, .int .u8 0, .int .u8 0, .int .u8 0, .int .u8 0, .int .u8 0] 30)).alloc (.cells hz 137)).setCells (w.alloc (.cells #[.int .u8 0, .int .u8 0, .int .u8 0, .int .u8 0, .int .u8 0, .int .u8 0, .int .u8 0, .int .u8 0, .int .u8 0, .int .u8 0, .int .u8 0, .int .u8 0, .int .u8 0, .int .u8 0, .int .u8 0, .int .u8 0, .int .u8 0, .int .u8 0, .int .u8 0, .int .u8 0, .int .u8 0, .int .u8 0, .int .u8 0, .int .u8 0, .int .u8 0, .int .u8 0, .int .u8 0, .int .u8 0, .int .u8 0, .int .u8 0, .int .u8 0, .int .u8 0] 30)).heap.size 0 A.toList) A := by
  have e1 : (w.alloc (.cells #[.int .u8 0, .int .u8 0, .int .u8 0, .int .u8 0, .int .u8 0, .int .u8 0, .int .u8 0, .int .u8 0, .int .u8 0, .int .u8 0, .int .u8 0, .int .u8 0, .int .u8 0, .int .u8 0, .int .u8 0, .int .u8 0, .int .u8 0, .int .u8 0, .int .u8 0, .int .u8 0, .int .u8 0, .int .u8 0, .int .u8 0, .int .u8 0, .int .u8 0, .int .u8 0, .int .u8 0, .int .u8 0, .int .u8 0, .int .u8 0, .int .u8 0, .int .u8 0] 30)).heap.size = w.heap.size + 1 := by simp
  have hb : Below w.heap.size w ((w.alloc (.cells #[.int .u8 0, .int .u8 0, .int .u8 0, .int .u8 0, .int .u8 0, .int .u8 0, .int .u8 0, .int .u8 0, .int .u8 0, .int .u8 0, .int .u8 0, .int .u8 0, .int .u8 0, .int .u8 0, .int .u8 0, .int .u8 0, .int .u8 0, .int .u8 0, .int .u8 0, .int .u8 0, .int .u8 0, .int .u8 0, .int .u8 0, .int .u8 0, .int .u8 0, .int .u8 0, .int .u8 0, .int .u8 0, .int .u8 0, .int .u8 0, .int .u8 0, .int .u8 0] 30)).alloc (.cells hz 137)) := ((Below.refl _ _).alloc (Nat.le_refl _) _).alloc (by simp) _
  have hs : ((w.alloc (.cells #[.int .u8 0, .int .u8 0, .int .u8 0, .int .u8 0, .int .u8 0, .int .u8 0, .int .u8 0, .int .u8 0, .int .u8 0, .int .u8 0, .int .u8 0, .int .u8 0, .int .u8 0, .int .u8 0, .int .u8 0, .int .u8 0, .int .u8 0, .int .u8 0, .int .u8 0, .int .u8 0, .int .u8 0, .int .u8 0, .int .u8 0, .int .u8 0, .int .u8 0, .int .u8 0, .int .u8 0, .int .u8 0, .int .u8 0, .int .u8 0, .int .u8 0, .int .u8 0] 30)).alloc (.cells hz 137)).heap.size = w.heap.size + 1 + 1 := by simp
  have hb2 := below_setCells hb (w.alloc (.cells #[.int .u8 0, .int .u8 0, .int .u8 0, .int .u8 0, .int .u8 0, .int .u8 0, .int .u8 0, .int .u8 0, .int .u8 0, .int .u8 0, .int .u8 0, .int .u8 0, .int .u8 0, .int .u8 0, .int .u8 0, .int .u8 0, .int .u8 0, .int .u8 0, .int .u8 0, .int .u8 0, .int .u8 0, .int .u8 0, .int .u8 0, .int .u8 0, .int .u8 0, .int .u8 0, .int .u8 0, .int .u8 0, .int .u8 0, .int .u8 0, .int .u8 0, .int .u8 0] 30)).heap.size (by rw [e1]; omega) A.toList 0
  have hb3 := below_setCells (Below.refl 0 ((w.alloc (.cells #[.int .u8 0, .int .u8 0, .int .u8 0, .int .u8 0, .int .u8 0, .int .u8 0, .int .u8 0, .int .u8 0, .int .u8 0, .int .u8 0, .int .u8 0, .int .u8 0, .int .u8 0, .int .u8 0, .int .u8 0, .int .u8 0, .int .u8 0, .int .u8 0, .int .u8 0, .int .u8 0, .int .u8 0, .int .u8 0, .int .u8 0, .int .u8 0, .int .u8 0, .int .u8 0, .int .u8 0, .int .u8 0, .int .u8 0, .int .u8 0, .int .u8 0, .int .u8 0] 30)).alloc (.cells hz 137))) (w.alloc (.cells #[.int .u8 0, .int .u8 0, .int .u8 0, .int .u8 0, .int .u8 0, .int .u8 0, .int .u8 0, .int .u8 0, .int .u8 0, .int .u8 0, .int .u8 0, .int .u8 0, .int .u8 0, .int .u8 0, .int .u8 0, .int .u8 0, .int .u8 0, .int .u8 0, .int .u8 0, .int .u8 0, .int .u8 0, .int .u8 0, .int .u8 0, .int .u8 0, .int .u8 0, .int .u8 0, .int .u8 0, .int .u8 0, .int .u8 0, .int .u8 0, .int .u8 0, .int .u8 0] 30)).heap.size (Nat.zero_le _) A.toList 0
  refine ⟨hb2, ⟨#[.int .u8 0, .int .u8 0, .int .u8 0, .int .u8 0, .int .u8 0, .int .u8 0, .int .u8 0, .int .u8 0, .int .u8 0, .int .u8 0, .int .u8 0, .int .u8 0, .int .u8 0, .int .u8 0, .int .u8 0, .int .u8 0, .int .u8 0, .int .u8 0, .int .u8 0, .int .u8 0, .int .u8 0, .int .u8 0, .int .u8 0, .int .u8 0, .int .u8 0, .int .u8 0, .int .u8 0, .int .u8 0, .int .u8 0, .int .u8 0, .int .u8 0, .int .u8 0], rfl, ?_⟩, ?_, ?_⟩
  · rw [((But.refl _ _).setCells A.toList 0).block _ (by rw [hs]; omega) (by rw [e1]; omega), heap_alloc_old _ _ (by rw [e1]; omega), heap_alloc_new]
  · rw [← e1]
    exact heap_stored (vs := A) (heap_alloc_new _ _) (by rw [hA, hz_size])
  · have := hb3.size; rw [hs] at this; exact this
/-- what stays while the digest is written, its row being r -/
structure DK (N M : Nat) (r : List Int) (w wr : World) : Prop where
  low : Below N w wr
  apart : N < M
  res : ∃ cs : Array Value, cs.size = 32 ∧ wr.heap[N]? = some (.cells cs 30 (0, 0))
  row : wr.heap[M]? = some (.cells (bv r).toArray 30 (0, 0))
set_option maxRecDepth 100000 in
theorem DK.lt {N M : Nat} {r : List Int} {w wr : World} (h : DK N M r w wr) : M < wr.heap.size := (Array.getElem?_eq_some_iff.1 h.row).1
set_option maxRecDepth 100000 in
theorem dig_pos {w : World} {M j : Nat} {ad : Addr} {cs : List Value} (h : ∀ i v, cs[i]? = some v → w.cell? (ad.add i) = some v) :
    0 < cs.length → some (⟨M, 4 * j, none⟩ : Addr) = some ⟨M, 4 * j, none⟩ ∧ ∃ a, some ad = some a ∧ ∀ i v, cs[i]? = some v → w.cell? (a.add i) = some v :=
  fun _ => ⟨rfl, ad, rfl, h⟩
set_option maxRecDepth 100000 in
theorem dig_info : (Tryd.prog.info? 30).map (·.size) = some 32 := by kernel_rfl
set_option maxRecDepth 100000 in
theorem hash_info : (Tryd.prog.info? 137).map (·.size) = some 74 := by kernel_rfl
set_option maxRecDepth 100000 in
theorem dig_min (j : Nat) {l : List Value} (h : l.length = 4) (hj : j < 8) : l.length = Nat.min 4 (32 - 4 * j) := by
  rw [h, show Nat.min 4 (32 - 4 * j) = min 4 (32 - 4 * j) from rfl]; omega

set_option maxRecDepth 100000 in
set_option maxHeartbeats 1000000 in
theorem hsum_any (g : Nat) (l : List Int) (w : World) (hh : HashAt w g l) (htab : Tab w) (hbd : l.length ≤ 2305843009213693951) :
    Calls Tryd.prog 89 #[.pointer (some ⟨g, 0, none⟩)] w fun e w' => e = .returned (.agg (bv (sumL l)).toArray) ∧ Below w.heap.size w w' := by
  have hglt := hh.lt
  obtain ⟨r, hr, hrow⟩ := hh
  have hmade := hash_made hrow
  have hmadeA : ∀ o, (w.alloc o).cell? ⟨g, 0, none⟩ = some (.bool true) := fun o => hash_made (heap_alloc_old w o hglt |>.trans hrow)
  have hcnt := hash_count hrow hr.len
  have HZ : Bx ((hcl (chn l (l.length / 64)) r l.length).toArray.size = 74) := ⟨by rw [List.size_toArray, hcl_length _ _ _ hr.len]⟩
  have HO : Bx ((hcl (chn l (l.length / 64)) r l.length).toArray.all (·.oneCell') = true) := ⟨all_oneCell_toArray (hcl_one _ _ _)⟩
  have HR : Bx (∀ o, (w.alloc o).heap[g]? = some (.cells (hcl (chn l (l.length / 64)) r l.length).toArray 137 (0, 0))) := ⟨fun o => heap_alloc_old w o hglt |>.trans hrow⟩
  have HH : Bx (∀ W : World, W.heap[w.heap.size + 1]? = some (.cells (hcl (chn l (l.length / 64)) r l.length).toArray 137 (0, 0)) → HashAt W (w.heap.size + 1) l) := ⟨fun W h => ⟨r, hr, h⟩⟩
  clear hrow
  generalize (hcl (chn l (l.length / 64)) r l.length).toArray = A at HZ HO HR HH
  have HI : Bx ((Tryd.prog.info? 137).map (·.size) = some A.size) := ⟨by rw [HZ.out]; exact hash_info⟩
  go_enter Tryd.func89, Tryd.ntmps89
  go_wp2_with (refine wpList_load_row rfl 137 (.tmp 18) rfl g rfl 137 A (0, 0) _ (HR.out _) Tryd.underlying137 rfl HI.out ?_; refine wpList_run rfl (.pointer (some ⟨(w.alloc (.cells #[.int .u8 0, .int .u8 0, .int .u8 0, .int .u8 0, .int .u8 0, .int .u8 0, .int .u8 0, .int .u8 0, .int .u8 0, .int .u8 0, .int .u8 0, .int .u8 0, .int .u8 0, .int .u8 0, .int .u8 0, .int .u8 0, .int .u8 0, .int .u8 0, .int .u8 0, .int .u8 0, .int .u8 0, .int .u8 0, .int .u8 0, .int .u8 0, .int .u8 0, .int .u8 0, .int .u8 0, .int .u8 0, .int .u8 0, .int .u8 0, .int .u8 0, .int .u8 0] 30)).heap.size, 0, none⟩)) ((w.alloc (.cells #[.int .u8 0, .int .u8 0, .int .u8 0, .int .u8 0, .int .u8 0, .int .u8 0, .int .u8 0, .int .u8 0, .int .u8 0, .int .u8 0, .int .u8 0, .int .u8 0, .int .u8 0, .int .u8 0, .int .u8 0, .int .u8 0, .int .u8 0, .int .u8 0, .int .u8 0, .int .u8 0, .int .u8 0, .int .u8 0, .int .u8 0, .int .u8 0, .int .u8 0, .int .u8 0, .int .u8 0, .int .u8 0, .int .u8 0, .int .u8 0, .int .u8 0, .int .u8 0] 30)).alloc (.cells hz 137)) (by kernel_rfl) ?_; refine wpList_store_mid rfl 137 (.tmp 3) (.tmp 19) rfl (w.alloc (.cells #[.int .u8 0, .int .u8 0, .int .u8 0, .int .u8 0, .int .u8 0, .int .u8 0, .int .u8 0, .int .u8 0, .int .u8 0, .int .u8 0, .int .u8 0, .int .u8 0, .int .u8 0, .int .u8 0, .int .u8 0, .int .u8 0, .int .u8 0, .int .u8 0, .int .u8 0, .int .u8 0, .int .u8 0, .int .u8 0, .int .u8 0, .int .u8 0, .int .u8 0, .int .u8 0, .int .u8 0, .int .u8 0, .int .u8 0, .int .u8 0, .int .u8 0, .int .u8 0] 30)).heap.size 0 A rfl rfl (by rw [HZ.out, ← hz_size]; exact there_new _ _ _) HI.out HO.out ?_; have hS := sum_start w A HZ.out; generalize ((w.alloc (.cells #[.int .u8 0, .int .u8 0, .int .u8 0, .int .u8 0, .int .u8 0, .int .u8 0, .int .u8 0, .int .u8 0, .int .u8 0, .int .u8 0, .int .u8 0, .int .u8 0, .int .u8 0, .int .u8 0, .int .u8 0, .int .u8 0, .int .u8 0, .int .u8 0, .int .u8 0, .int .u8 0, .int .u8 0, .int .u8 0, .int .u8 0, .int .u8 0, .int .u8 0, .int .u8 0, .int .u8 0, .int .u8 0, .int .u8 0, .int .u8 0, .int .u8 0, .int .u8 0] 30)).alloc (.cells hz 137)).setCells (w.alloc (.cells #[.int .u8 0, .int .u8 0, .int .u8 0, .int .u8 0, .int .u8 0, .int .u8 0, .int .u8 0, .int .u8 0, .int .u8 0, .int .u8 0, .int .u8 0, .int .u8 0, .int .u8 0, .int .u8 0, .int .u8 0, .int .u8 0, .int .u8 0, .int .u8 0, .int .u8 0, .int .u8 0, .int .u8 0, .int .u8 0, .int .u8 0, .int .u8 0, .int .u8 0, .int .u8 0, .int .u8 0, .int .u8 0, .int .u8 0, .int .u8 0, .int .u8 0, .int .u8 0] 30)).heap.size 0 A.toList = W3 at hS ⊢; have hcnt3 := (hS.low.cell (p := ⟨g, 73, none⟩) hglt).trans hcnt)
  refine (pad_any l.length W3 (by omega) (by omega)).mono ?_
  rintro e W4 ⟨v4, rfl, hown4, hb4⟩
  have hpl : 9 ≤ (padL l.length).length ∧ (padL l.length).length ≤ 72 := by rw [padL_length]; have := padZ_le l.length; omega
  have hpb := padL_byt l.length
  have HSM : Bx (digL (chn (l ++ padL l.length) ((l ++ padL l.length).length / 64)).list = sumL l) := ⟨by unfold sumL allL; rfl⟩
  generalize padL (l.length : Int) = p at hown4 hpl hpb HSM ⊢
  obtain ⟨hpl1, hpl2⟩ := hpl
  obtain ⟨g4, cap4, rfl, hg4, _⟩ := owns_form hown4 (by omega)
  obtain ⟨a4, c4, e4, hm4⟩ := Bts.of_owns hown4 hpb
  cases e4
  have hS2 := hS.size
  have hrow4 : W4.heap[w.heap.size + 1]? = some (.cells A 137 (0, 0)) := (hb4.block _ (by omega)).trans hS.row
  have hash4 := HH.out W4 hrow4
  have hlow4 : Below w.heap.size w W4 := hS.low.trans (hb4.mono (by omega))
  have hsz4 := hb4.size
  obtain ⟨cs, hcs, hres3⟩ := hS.res
  have hres4 : W4.heap[w.heap.size]? = some (.cells cs 30 (0, 0)) := (hb4.block _ (by omega)).trans hres3
  have htab4 := htab.below hlow4
  clear hown4 hb4 hrow4 hres3 hcnt3 hS
  go_wp2_with fail
  refine (take_any (w.heap.size + 1) l p _ _ _ _ hash4 hm4 (fun _ p hp => by cases hp; show g4 ≠ _; omega) (by have := htab.pos; omega) htab4 (by omega)).mono ?_
  rintro e W5 ⟨⟨v5, rfl⟩, ⟨r5, hr5, hrow5⟩, hbut5⟩
  have hlow5 : Below w.heap.size w W5 := hlow4.trans (hbut5.low (by omega) (by omega))
  have hres5 : W5.heap[w.heap.size]? = some (.cells cs 30 (0, 0)) := (hbut5.block _ (by omega) (by omega)).trans hres4
  have hsz5 := hbut5.size
  have htu := chn_u (l ++ p) ((l ++ p).length / 64)
  generalize chn (l ++ p) ((l ++ p).length / 64) = t at hrow5 HSM htu
  generalize (l ++ p).length = n5 at hrow5
  clear hash4 hm4 hlow4 htab4 hres4 hbut5
  have hDK : DK w.heap.size W5.heap.size (List.replicate 32 0) w (W5.alloc (.cells #[.int .u8 0, .int .u8 0, .int .u8 0, .int .u8 0, .int .u8 0, .int .u8 0, .int .u8 0, .int .u8 0, .int .u8 0, .int .u8 0, .int .u8 0, .int .u8 0, .int .u8 0, .int .u8 0, .int .u8 0, .int .u8 0, .int .u8 0, .int .u8 0, .int .u8 0, .int .u8 0, .int .u8 0, .int .u8 0, .int .u8 0, .int .u8 0, .int .u8 0, .int .u8 0, .int .u8 0, .int .u8 0, .int .u8 0, .int .u8 0, .int .u8 0, .int .u8 0] 30)) :=
    ⟨hlow5.alloc hlow5.size _, by omega, ⟨cs, hcs, by rw [heap_alloc_old _ _ (by omega)]; exact hres5⟩, by rw [heap_alloc_new]; rfl⟩
  have hrow6 : (W5.alloc (.cells #[.int .u8 0, .int .u8 0, .int .u8 0, .int .u8 0, .int .u8 0, .int .u8 0, .int .u8 0, .int .u8 0, .int .u8 0, .int .u8 0, .int .u8 0, .int .u8 0, .int .u8 0, .int .u8 0, .int .u8 0, .int .u8 0, .int .u8 0, .int .u8 0, .int .u8 0, .int .u8 0, .int .u8 0, .int .u8 0, .int .u8 0, .int .u8 0, .int .u8 0, .int .u8 0, .int .u8 0, .int .u8 0, .int .u8 0, .int .u8 0, .int .u8 0, .int .u8 0] 30)).heap[w.heap.size + 1]? = some (.cells (hcl t r5 n5).toArray 137 (0, 0)) := by rw [heap_alloc_old _ _ (by omega)]; exact hrow5
  obtain ⟨c1, c2, c3, c4, c5, c6, c7, c8⟩ := hash_st hrow6
  clear hrow6 hrow5 hlow5 hres5
  go_wp2
  rw [show (#[.int .u32 t.a, .int .u32 t.b, .int .u32 t.c, .int .u32 t.d, .int .u32 t.e, .int .u32 t.f, .int .u32 t.g, .int .u32 t.h] : Array Value) = (uv t.list).toArray from rfl]
  clear c1 c2 c3 c4 c5 c6 c7 c8
  generalize W5.alloc (.cells #[.int .u8 0, .int .u8 0, .int .u8 0, .int .u8 0, .int .u8 0, .int .u8 0, .int .u8 0, .int .u8 0, .int .u8 0, .int .u8 0, .int .u8 0, .int .u8 0, .int .u8 0, .int .u8 0, .int .u8 0, .int .u8 0, .int .u8 0, .int .u8 0, .int .u8 0, .int .u8 0, .int .u8 0, .int .u8 0, .int .u8 0, .int .u8 0, .int .u8 0, .int .u8 0, .int .u8 0, .int .u8 0, .int .u8 0, .int .u8 0, .int .u8 0, .int .u8 0] 30) = W6 at hDK ⊢
  obtain ⟨N, hN⟩ : ∃ N, N = w.heap.size := ⟨_, rfl⟩
  obtain ⟨M, hM⟩ : ∃ M, M = W5.heap.size := ⟨_, rfl⟩
  rw [← hN] at hDK ⊢
  rw [← hM] at hDK ⊢
  have HN : Hid (N = w.heap.size) := hN
  have htl := St.list_u htu
  have HL8 : Hid (t.list.length = 8) := rfl
  generalize t.list = tl at HSM htl HL8 ⊢
  clear hN hM htu hglt hmade hmadeA hcnt HR HH
  go_loopw [29] (fun i wr => ∃ j : Nat, j ≤ 8 ∧ i = .int .i64 j ∧ DK N M (digP tl j) w wr) (fun i _ => 8 - (intOf i).toNat)
  case atStart => exact ⟨0, Nat.zero_le _, rfl, by rw [digP_zero]; exact hDK⟩
  case round =>
    clear hDK
    obtain ⟨j, hj, rfl, hk⟩ := hrel
    by_cases hlt : j < 8
    · have hix := idx_u32 tl j HL8.out hlt
      have hu := htl.getD j
      have HSP : Hid (splice (bv (digP tl j)) (4 * j) (bv (putL (tl.getD j 0) 4)) = bv (digP tl (j + 1))) := digP_splice tl j HL8.out hlt
      have HRL : Hid ((bv (digP tl j)).length = 32) := by show _ = _; rw [bv_length, digP_length tl j HL8.out hj]
      generalize tl.getD j 0 = x at hix hu HSP
      have hu1 := hu.1
      have hu2 := hu.2
      have HQ : Hid ((bv (putL x 4)).length = 4) := by show _ = _; rw [bv_length, putL_length]
      have hsl := dig_slice M j hlt
      have hMlt : M < wr.drew.heap.size := hk.lt
      have hrow : wr.drew.heap[M]? = some (.cells (bv (digP tl j)).toArray 30 (0, 0)) := hk.row
      have hlow : Below N w wr.drew := hk.low.drew
      have hap := hk.apart
      have j0 : (0 : Int) ≤ (j : Int) := by omega
      have j8 : (j : Int) < 8 := by omega
      have hw4 : IntKind.i64.wrap (4 * (j : Int)) = 4 * (j : Int) := IntWalk.i64_in _ (by omega)
      have hwx : IntKind.u64.wrap x = x := by rw [IntKind.wrap_u64]; omega
      obtain ⟨cs', hcs', hres'⟩ := hk.res
      go_wp2
      go_region_held3 (fun _ => True) (trivial) (first | (go_at_call 50; refine (put_some x 4 _ (by decide) (by decide) (by omega) (by omega)).mono ?_; rintro e w3 ⟨v3, rfl, hown3, hb3⟩; obtain ⟨a3, cap3, rfl, hm3⟩ := Bts.of_owns hown3 (putL_byt _ _); obtain ⟨g3, o3, rfl, _, _⟩ := hm3.spot (by decide); have hcl := hm3.cells; have hg3 := (hb3.block _ hMlt).trans hrow; have hB3 := hlow.trans (hb3.mono (by omega)); have hres3 := hb3.block N (by omega); clear hown3 hm3 hb3) | (refine step_copy_splice rfl (.tmp 35) (.tmp 38) 22 22 rfl 5 Tryd.underlying22 Tryd.size5 _ _ _ _ _ _ (by rfl) (by rfl) M (4 * j) (bv (digP tl j)) 30 hg3 (bv (putL x 4)) (dig_min j HQ.out hlt) (dig_pos hcl) (by rw [HQ.out, HRL.out]; omega) (bv_one _) M w3 (Below.refl _ _) (Nat.le_refl _) ?_; intro w4 hg4 hb4))
      have hk4 : DK N M (digP tl (j + 1)) w w4 := by
        refine ⟨hB3.trans (hb4.mono (by omega)), hap, ⟨cs', hcs', ?_⟩, ?_⟩
        · rw [hb4.block N hap, hres3]; exact hres'
        · have h4 := hg4.out
          rw [HSP.out] at h4
          exact h4
      clear hg4 hcl hg3 hB3 hrow hlow hres' hres3 hb4 hk HSP HRL hix hsl
      go_wp2
      go_roundw
      case rel => exact ⟨j + 1, by omega, by go_num, hk4⟩
      case measure => simp [intOf]; omega
    · have HJ : Hid (j = 8) := by show j = 8; omega
      obtain ⟨cs', hcs', hres⟩ := hk.res
      have ht := there_row hres
      rw [hcs'] at ht
      have hst : wr.heap[M]? = some (.cells (bv (sumL l)).toArray 30 (0, 0)) := by
        have := hk.row
        rw [HJ.out, digP_end tl HL8.out, HSM.out] at this
        exact this
      have HZ2 : Bx ((bv (sumL l)).toArray.size = 32) := ⟨by rw [List.size_toArray, bv_length, sumL_length]⟩
      have HO2 : Bx ((bv (sumL l)).toArray.all (·.oneCell') = true) := ⟨all_oneCell_toArray (bv_one _)⟩
      have hbl : Below w.heap.size w wr := by rw [← HN.out]; exact hk.low
      have hNs : w.heap.size ≤ N := by have := HN.out; omega
      clear HSM hk
      generalize hD : (bv (sumL l)).toArray = D at hst HZ2 HO2
      have HD : Bx (Ending.returned (.agg D) = .returned (.agg (bv (sumL l)).toArray)) := ⟨by rw [hD]⟩
      clear hD
      have HI2 : Bx ((Tryd.prog.info? 30).map (·.size) = some D.size) := ⟨by rw [HZ2.out]; exact dig_info⟩
      have HST : Bx ((wr.setCells N 0 D.toList).heap[N]? = some (.cells D 30 (0, 0))) := ⟨heap_stored (vs := D) hres (by rw [hcs', HZ2.out])⟩
      have HBS : Bx (Below w.heap.size w (wr.setCells N 0 D.toList)) := ⟨below_setCells hbl N hNs D.toList 0⟩
      have HTH : Bx (wr.there N 0 D.size) := ⟨by rw [HZ2.out]; exact ht⟩
      have HRW : Bx (wr.heap[M]? = some (.cells D 30 (0, 0))) := ⟨hst⟩
      clear hres ht hbl hNs hcs' hst
      go_wp2_with (refine wpList_load_row rfl 30 (.tmp 4) rfl M rfl 30 D (0, 0) _ HRW.out Tryd.underlying30 rfl HI2.out ?_; refine wpList_store_mid rfl 30 (.tmp 2) (.tmp 41) rfl N 0 D rfl rfl HTH.out HI2.out HO2.out ?_)
      exact bodyPost_ret (v := .agg D) (results_cell_row rfl _ _ N 30 D (0, 0) _ rfl HST.out Tryd.underlying30 rfl HI2.out) rfl ⟨HD.out, HBS.out⟩
end Go.Proofs.YtbednfacipphhaaDoor
