/- What the document's Var and ReadVar answer. What Turn, Low and the document's Turn and Low answer. What the document's three, key and First answer. Small facts on rows of bytes and of numbers in memory, for the walks of Block and Sum. Which paths and growths are taken, and that those made are: no walk. -/
import Derived.Test.YtbednfacipphhaaDoorAuas
import Derived.Test.YtbednfacipphhaaDoorBase
import Derived.Test.YtbednfacipphhaaDoorAuak
import Derived.Test.YtbednfacipphhaaDoorAuar
namespace Go.Proofs.YtbednfacipphhaaDoor
open Go.RowKit
set_option linter.unusedVariables false

set_option maxHeartbeats 400000 in
theorem refvar_any (f : Nat) : ∀ (x : Int) (w : World), f ≤ 9 → 0 ≤ x → x ≤ 18446744073709551615 → x < 128 ^ (f + 1) →
    Calls Tryd.prog 68 #[.int .u64 x] w fun e w' => ∃ v, e = .returned v ∧ w'.ownsRow w.heap.size 5 1 v (varF f x).length (bv (varF f x)) ∧ Below w.heap.size w w' := by
  obtain ⟨i0, hi, hz0, hz1, hz2⟩ := info_parts Tryd.info5
  induction f with
  | zero =>
    intro x w hf hx0 hx1 hx2
    have h128 : x < 128 := hx2
    clear hx2
    rw [varF_small 0 x h128]
    go_enter Tryd.func68, Tryd.ntmps68
    go_wp2
    go_ret
    exact ⟨_, rfl, World.ownsRow_lit w #[.int .u8 x] 1 (Nat.le_refl _) (by unfold maxLen; omega) rfl, (Below.refl _ _).alloc (Nat.le_refl _) _⟩
  | succ f ih =>
    intro x w hf hx0 hx1 hx2
    by_cases h128 : x < 128
    · clear hx2 ih
      rw [varF_small _ x h128]
      go_enter Tryd.func68, Tryd.ntmps68
      go_wp2
      go_ret
      exact ⟨_, rfl, World.ownsRow_lit w #[.int .u8 x] 1 (Nat.le_refl _) (by unfold maxLen; omega) rfl, (Below.refl _ _).alloc (Nat.le_refl _) _⟩
    · have hx3 : x / 128 < 128 ^ (f + 1) := by rw [Int.pow_succ] at hx2; omega
      have HI : Hid (∀ (x : Int) (w : World), f ≤ 9 → 0 ≤ x → x ≤ 18446744073709551615 → x < 128 ^ (f + 1) → Calls Tryd.prog 68 #[.int .u64 x] w fun e w' => ∃ v, e = .returned v ∧ w'.ownsRow w.heap.size 5 1 v (varF f x).length (bv (varF f x)) ∧ Below w.heap.size w w') := ih
      have H3 : Hid (x / 128 < 128 ^ (f + 1)) := hx3
      have HV : Hid (varF (f + 1) x = (x % 128 + 128) :: varF f (x / 128)) := varF_big f x h128
      have hlen := varF_length f (x / 128)
      have hbyt : Byt (varF f (x / 128)) := varF_byt f (x / 128) (by omega) hx3
      clear ih hx2 hx3
      rw [HV.out]
      go_enter Tryd.func68, Tryd.ntmps68
      go_wp2_with fail
      have hrow := World.ownsRow_lit (base := w.heap.size) (e := 5) (size := 1) w #[.int .u8 (128 + x % 128)] 1 (Nat.le_refl _) (by unfold maxLen; omega) rfl
      have hB0 : Below w.heap.size w (w.alloc (.cells #[.int .u8 (128 + x % 128)] 5)) := (Below.refl _ _).alloc (Nat.le_refl _) _
      refine (HI.out (x / 128) _ (by omega) (by omega) (by omega) H3.out).mono ?_
      rintro e w1 ⟨v, rfl, hown, hb1⟩
      have hrow1 := owns_below hrow hb1
      have hB1 := bstep hB0 hb1
      obtain ⟨ao, cap, rfl, hbt⟩ := Bts.of_owns hown hbyt
      obtain ⟨b, off, rfl, _, _⟩ := hbt.spot (by omega)
      have hcells := hbt.cells
      clear hrow hB0 hb1 HI H3 hown hbt
      generalize ht : varF f (x / 128) = t at *
      have HT : Hid (varF f (x / 128) = t) := ht
      clear ht
      go_wp2_with (at_builtin; refine wpList_append_own _ rfl _ _ 22 rfl w.heap.size 5 i0 (.int .u8 0) 1 1 Tryd.underlying22 hi hz0 hz1 hz2 rfl (by decide) _ _ _ rfl hrow1 ⟨b, off, none⟩ t.length cap (bv t) rfl (by rw [bv_length]; omega) hcells (bv_one t) (by unfold maxLen; omega) (by omega) hB1.size ?_)
      intro v' w2 hown' hgrow _
      have hB2 : Below w.heap.size w w2 := hB1.grown hgrow hB1.size (by intro g hg; cases hg; exact Nat.le_refl _)
      have hres : w2.ownsRow w.heap.size 5 1 v' ((x % 128 + 128) :: t).length (bv ((x % 128 + 128) :: t)) := by
        rw [List.length_cons, Nat.add_comm, Int.add_comm]; exact hown'
      clear hown' hgrow hrow1 hcells
      go_wp2
      go_ret
      exact ⟨_, rfl, by rw [HT.out]; exact hres, hB2⟩

end Go.Proofs.YtbednfacipphhaaDoor
namespace Go.Proofs.YtbednfacipphhaaDoor
open Go.RowKit
set_option linter.unusedVariables false

set_option maxRecDepth 100000 in
theorem turn_core (x : Int) (p : Nat) (hp : p < 32) (hx0 : 0 ≤ x) (hx1 : x < 4294967296) :
    bits .or .u32 (x / 2 ^ p) (x * 2 ^ (32 - p) % 4294967296) = rot p x := by
  rw [rot_trn x p (by omega)]
  obtain ⟨a, rfl⟩ := Int.eq_ofNat_of_zero_le hx0
  have hj := turn_join a p (by omega) (by omega)
  have e1 : (a : Int) / 2 ^ p = ((a / 2 ^ p : Nat) : Int) := by simp
  have e2 : (a : Int) * 2 ^ (32 - p) % 4294967296 = ((a * 2 ^ (32 - p) % 4294967296 : Nat) : Int) := by simp
  rw [e1, e2, u32_or_nat _ _ (Nat.lt_of_le_of_lt (Nat.div_le_self _ _) (by omega)) (Nat.mod_lt _ (by decide)), hj]
  unfold trn
  simp

set_option maxHeartbeats 400000 in
theorem turn_any (x n : Int) (w : World) (hx0 : 0 ≤ x) (hx1 : x < 4294967296) (hn0 : -9223372036854775808 ≤ n) (hn1 : n ≤ 9223372036854775807) :
    Calls Tryd.prog 109 #[.int .u32 x, .int .i64 n] w fun e w' => e = .returned (.int .u32 (turnV x n)) ∧ w = w' := by
  obtain ⟨p, hp⟩ : ∃ p : Nat, n % 32 = (p : Int) := ⟨(n % 32).toNat, by omega⟩
  have hp32 : p < 32 := by omega
  have hpe : (IntKind.u64.wrap n).tmod 32 = (p : Int) := by
    rw [IntKind.wrap_u64, Int.tmod_eq_emod_of_nonneg (by omega)]; omega
  have HT : Hid (turnV x n = rot p x) := by show turnV x n = rot p x; unfold turnV; rw [hp, Int.toNat_natCast]
  have hj := turn_core x p hp32 hx0 hx1
  clear hp
  rw [HT.out]
  go_enter Tryd.func109, Tryd.ntmps109
  go_wp2
  go_ret
  exact ⟨rfl, rfl⟩

set_option maxHeartbeats 400000 in
theorem refturn_any (x n : Int) (w : World) (hx0 : 0 ≤ x) (hx1 : x < 4294967296) (hn0 : -9223372036854775808 ≤ n) (hn1 : n ≤ 9223372036854775807) :
    Calls Tryd.prog 92 #[.int .u32 x, .int .i64 n] w fun e w' => e = .returned (.int .u32 (turnV x n)) ∧ w = w' := by
  have ht : -31 ≤ n.tmod 32 ∧ n.tmod 32 ≤ 31 := by
    rw [Int.tmod_eq_emod]; split <;> omega
  obtain ⟨p, hp⟩ : ∃ p : Nat, n % 32 = (p : Int) := ⟨(n % 32).toNat, by omega⟩
  have hp32 : p < 32 := by omega
  have hpe : (n.tmod 32 + 32) % 32 = (p : Int) := by
    rw [Int.tmod_eq_emod]; split <;> omega
  have HT : Hid (turnV x n = rot p x) := by show turnV x n = rot p x; unfold turnV; rw [hp, Int.toNat_natCast]
  clear hp
  rw [HT.out]
  go_enter Tryd.func92, Tryd.ntmps92
  go_wp2
  go_loop [0, 5] (fun y i => ∃ k : Nat, k ≤ p ∧ i = .int .i64 k ∧ y = .int .u32 (rot k x)) (fun _ i => p - (intOf i).toNat)
  case atStart => exact ⟨0, Nat.zero_le _, rfl, rfl⟩
  case round =>
    obtain ⟨k, hk, rfl, rfl⟩ := hrel
    have hb := rot_bd k x hx0 hx1
    have HS : Hid (rot (k + 1) x = rot k x / 2 + rot k x % 2 * 2147483648) := rfl
    by_cases hlt : k < p
    · generalize rot k x = y at hb HS ⊢
      by_cases hy : y % 2 = 1
      · have hyb : (y % 2 == 1) = true := by simpa using hy
        have HY : Hid (y % 2 = 1) := hy
        clear hy
        go_wp2
        go_round
        case rel => exact ⟨k + 1, by omega, by go_num, by rw [HS.out, HY.out]; go_num⟩
        case measure => simp [intOf]; omega
      · have hyb : (y % 2 == 1) = false := by simpa using hy
        have HY : Hid (y % 2 = 0) := by show y % 2 = 0; omega
        clear hy
        go_wp2
        go_round
        case rel => exact ⟨k + 1, by omega, by go_num, by rw [HS.out, HY.out]; go_num⟩
        case measure => simp [intOf]; omega
    · obtain rfl : k = p := by omega
      go_wp2
      go_ret
      exact ⟨rfl, rfl⟩

end Go.Proofs.YtbednfacipphhaaDoor
namespace Go.Proofs.YtbednfacipphhaaDoor
open Go.RowKit
set_option linter.unusedVariables false

set_option maxHeartbeats 400000 in
theorem three_any (x a b c : Int) (w : World) (hx : U32 x) (ha : -9223372036854775808 ≤ a ∧ a ≤ 9223372036854775807) (hb : -9223372036854775808 ≤ b ∧ b ≤ 9223372036854775807) (hc : -9223372036854775808 ≤ c ∧ c ≤ 9223372036854775807) :
    Calls Tryd.prog 93 #[.int .u32 x, .int .i64 a, .int .i64 b, .int .i64 c] w fun e w' => e = .returned (.int .u32 (thr x a b c)) ∧ w = w' := by
  have h1 := xr_eq (turn_u a hx) (turn_u b hx)
  have h2 := xr_eq (xr_u (turn_u a hx) (turn_u b hx)) (turn_u c hx)
  go_enter Tryd.func93, Tryd.ntmps93
  go_wp2_with fail
  refine (refturn_any x a _ hx.1 hx.2 ha.1 ha.2).mono ?_
  rintro e w' ⟨rfl, rfl⟩
  go_wp2_with fail
  refine (refturn_any x b _ hx.1 hx.2 hb.1 hb.2).mono ?_
  rintro e w' ⟨rfl, rfl⟩
  go_wp2_with fail
  refine (refturn_any x c _ hx.1 hx.2 hc.1 hc.2).mono ?_
  rintro e w' ⟨rfl, rfl⟩
  go_wp2
  go_ret
  exact ⟨rfl, rfl⟩

set_option maxRecDepth 100000 in
theorem uv_getD (l : List Int) (i : Nat) (h : i < l.length) : (uv l)[i]? = some (.int .u32 (l.getD i 0)) := by
  rw [uv, List.getElem?_map, List.getElem?_eq_getElem h, List.getD_eq_getElem?_getD, List.getElem?_eq_getElem h]; rfl
set_option maxRecDepth 100000 in
theorem keyL_length : keyL.length = 64 := rfl
set_option maxRecDepth 100000 in
theorem keyL_size : (uv keyL).toArray.size = 64 := rfl
set_option maxRecDepth 100000 in
theorem key_info : (Tryd.prog.info? 138).map (·.size) = some (uv keyL).toArray.size := by kernel_rfl
set_option maxRecDepth 100000 in
set_option maxHeartbeats 400000 in
theorem key_any (i : Nat) (w : World) (hi : i < 64) :
    Calls Tryd.prog 94 #[.int .i64 i] w fun e w' => e = .returned (.int .u32 (keyL.getD i 0)) ∧ Below w.heap.size w w' := by
  go_enter Tryd.func94, Tryd.ntmps94
  iterate 11 go_step
  refine wpList_run rfl (.agg (uv keyL).toArray) w (by kernel_rfl) ?_
  refine wpList_run rfl (.pointer (some ⟨w.heap.size, 0, none⟩)) (w.alloc (.cells (Array.replicate 64 (.int .u32 0)) 138)) (by kernel_rfl) ?_
  have ht := there_new w (Array.replicate 64 (.int .u32 0)) 138
  rw [Array.size_replicate] at ht
  refine wpList_store_mid rfl 138 _ _ rfl w.heap.size 0 (uv keyL).toArray rfl rfl (by rw [keyL_size]; exact ht) key_info (all_oneCell_toArray (uv_one keyL)) ?_
  have hc : ((w.alloc (.cells (Array.replicate 64 (.int .u32 0)) 138)).setCells w.heap.size 0 (uv keyL).toArray.toList).cell? ⟨w.heap.size, i, none⟩ = some (.int .u32 (keyL.getD i 0)) := by
    rw [List.toList_toArray, cell_stored ht (by rw [uv_length, keyL_length]) i hi]
    exact uv_getD keyL i (by rw [keyL_length]; exact hi)
  have hb : Below w.heap.size w ((w.alloc (.cells (Array.replicate 64 (.int .u32 0)) 138)).setCells w.heap.size 0 (uv keyL).toArray.toList) :=
    below_setCells ((Below.refl _ _).alloc (Nat.le_refl _) _) _ (Nat.le_refl _) _ _
  generalize (w.alloc (.cells (Array.replicate 64 (.int .u32 0)) 138)).setCells w.heap.size 0 (uv keyL).toArray.toList = W at hc hb ⊢
  clear ht
  generalize hK : keyL.getD i 0 = K at hc
  have HK : Hid (keyL.getD i 0 = K) := hK
  clear hK
  generalize (uv keyL).toArray = arr
  go_wp2
  go_ret
  exact ⟨ret_int HK.out.symm, hb⟩
set_option maxHeartbeats 400000 in
theorem reffirst_any (w : World) :
    Calls Tryd.prog 66 #[] w fun e w' => e = .returned (.agg (uv [1779033703, 3144134277, 1013904242, 2773480762, 1359893119, 2600822924, 528734635, 1541459225]).toArray) ∧ Below w.heap.size w w' := by
  go_enter Tryd.func66, Tryd.ntmps66
  go_wp2
  exact bodyPost_ret (v := .agg #[.int .u32 1779033703, .int .u32 3144134277, .int .u32 1013904242, .int .u32 2773480762, .int .u32 1359893119, .int .u32 2600822924, .int .u32 528734635, .int .u32 1541459225]) (by simp [results, Tryd.results66, go_sem]) rfl ⟨rfl, (Below.refl _ _).alloc (Nat.le_refl _) _⟩
end Go.Proofs.YtbednfacipphhaaDoor
namespace Go.Proofs.YtbednfacipphhaaDoor
open Go.RowKit
set_option linter.unusedVariables false

set_option maxRecDepth 100000 in
theorem Tryd.info32 : (Tryd.prog.info? 102).map (fun i => (i.zero, i.size, i.bytes)) = some (some (.int .u32 0), 1, 4) := by kernel_rfl

set_option maxRecDepth 100000 in
/-- a piece of a row of bytes -/
theorem Bts.pieceB {w : World} {g n : Nat} {b : List Int} (hc : ∀ j, j < b.length → w.cell? ⟨g, j, none⟩ = some (.int .u8 (b.getD j 0))) (hb : Byt b) (hg : g < w.heap.size) (o m cap : Nat) (h : o + m ≤ b.length) (hcap : m ≤ cap) (hm : cap ≤ maxLen) :
    Bts w (some ⟨g, o, none⟩) m cap ((b.drop o).take m) := by
  refine ⟨by rw [List.length_take, List.length_drop]; omega, fun c hc' => hb c (List.mem_of_mem_drop (List.mem_of_mem_take hc')), hcap, hm, (fun hh => by cases hh), fun _ => ⟨g, o, rfl, hg, fun i hi => ?_⟩⟩
  rw [hc (o + i) (by omega)]
  simp only [List.getD_eq_getElem?_getD, List.getElem?_take, List.getElem?_drop, if_pos hi]
set_option maxRecDepth 100000 in
theorem bv_cell {w : World} {g : Nat} {b : List Int} {t : TypeId} (hg : w.heap[g]? = some (.cells (bv b).toArray t (0, 0))) (j : Nat) (hj : j < b.length) : w.cell? ⟨g, j, none⟩ = some (.int .u8 (b.getD j 0)) := by
  rw [cell_of_row w g j _ t (0, 0) hg]
  simp [bv, hj, List.getD_eq_getElem?_getD]
set_option maxRecDepth 100000 in
theorem sch_lo (b : List Int) (k : Nat) (h : k < 16) : sch b (k + 1) = sch b k ++ [w4 b k] := by simp [sch, h]
set_option maxRecDepth 100000 in
theorem sch_hi (b : List Int) (k : Nat) (h : 16 ≤ k) : sch b (k + 1) = sch b k ++ [wx (sch b k) k] := by simp [sch, show ¬ k < 16 by omega]
set_option maxRecDepth 100000 in
/-- behind an append of one number to a row of numbers of 32 bits -/
theorem row_rel {B : Nat} {w wr w1 : World} {p q : List Int} {n : Nat} {v v' : Value} {c : Int} {o : Obj} (hb : Below B w wr) (hB : B ≤ wr.heap.size)
    (hown : wr.ownsRow B 102 1 v n (uv p))
    (h1 : w1.ownsRow B 102 1 v' (n + 1) (uv p ++ [.int .u32 c])) (hg : (wr.alloc o).grownBy w1 v.ownBlock) (hq : q = p ++ [c]) :
    w1.ownsRow B 102 1 v' (n + 1) (uv q) ∧ Below B w w1 := by
  refine ⟨by rw [hq, uv_append]; exact h1, ?_⟩
  refine (hb.alloc hB o).grown hg (by simp; omega) ?_
  intro g hg'
  exact (hown.lt g hg').1

set_option maxRecDepth 100000 in
theorem row_cell {w : World} {base g n cap : Nat} {p : List Int} (h : w.ownsRow base 102 1 (.slice (some ⟨g, 0, none⟩) n cap) n (uv p)) (hp : p.length = n) (j : Nat) (hj : j < n) : w.cell? ⟨g, j, none⟩ = some (.int .u32 (p.getD j 0)) := by
  rw [h.cellAt j (by omega)]; exact uv_getD p j (by omega)
set_option maxRecDepth 100000 in
theorem st_cell {w : World} {N : Nat} {s : St} {t : TypeId} (h : w.heap[N]? = some (.cells s.cells t (0, 0))) :
    w.cell? ⟨N, 0, none⟩ = some (.int .u32 s.a) ∧ w.cell? ⟨N, 1, none⟩ = some (.int .u32 s.b) ∧ w.cell? ⟨N, 2, none⟩ = some (.int .u32 s.c) ∧ w.cell? ⟨N, 3, none⟩ = some (.int .u32 s.d) ∧
    w.cell? ⟨N, 4, none⟩ = some (.int .u32 s.e) ∧ w.cell? ⟨N, 5, none⟩ = some (.int .u32 s.f) ∧ w.cell? ⟨N, 6, none⟩ = some (.int .u32 s.g) ∧ w.cell? ⟨N, 7, none⟩ = some (.int .u32 s.h) := by
  refine ⟨?_, ?_, ?_, ?_, ?_, ?_, ?_, ?_⟩ <;> rw [cell_of_row w N _ _ t (0, 0) h] <;> rfl
set_option maxRecDepth 100000 in
theorem keep_cell {wr wX w1 : World} {p : Addr} {v : Value} (h : wX.cell? p = some v ∧ Below wr.heap.size wr wX) (hb : Below wX.heap.size wX w1) : w1.cell? p = some v ∧ Below wr.heap.size wr w1 :=
  ⟨(hb.cell (block_lt_of_cell h.1)).trans h.1, bstep h.2 hb⟩
set_option maxRecDepth 100000 in
theorem not_eq {e : Int} (h : U32 e) : bits .xor .u32 IntKind.u32.max e = nt e := by
  have h1 := h.1; have h2 := h.2
  have hm : IntKind.u32.max = 4294967295 := rfl
  rw [hm, u32_xor _ _ (by decide) (by decide) h1 h2]
  obtain ⟨x, rfl⟩ := Int.eq_ofNat_of_zero_le h1
  have hx : x < 2 ^ 32 := by omega
  have e : 4294967295 ^^^ x = 4294967295 - x := by
    have := BitVec.toNat_not (x := BitVec.ofNat 32 x)
    rw [BitVec.toNat_ofNat, Nat.mod_eq_of_lt hx] at this
    have h3 : (~~~ (BitVec.ofNat 32 x)) = BitVec.allOnes 32 ^^^ BitVec.ofNat 32 x := by rw [BitVec.allOnes_xor]
    rw [h3, BitVec.toNat_xor, BitVec.toNat_allOnes, BitVec.toNat_ofNat, Nat.mod_eq_of_lt hx] at this
    simpa using this
  show ((Int.toNat 4294967295 ^^^ Int.toNat (x : Int) : Nat) : Int) = _
  rw [Int.toNat_natCast, show Int.toNat 4294967295 = 4294967295 from rfl, e]
  unfold nt; omega
end Go.Proofs.YtbednfacipphhaaDoor
namespace Go.Proofs.YtbednfacipphhaaDoor
open Go.RowKit
set_option linter.unusedVariables false

/-- the way down to a place: of each step whether it goes to the others -/
def stepsL (n i : Nat) : List Bool :=
  if h : n ≤ 1 then []
  else if i < splitN n then false :: stepsL (splitN n) i
  else true :: stepsL (n - splitN n) (i - splitN n)
  termination_by n
  decreasing_by
    · exact splitN_lt (by omega)
    · have := splitN_pos (n := n) (by omega)
      omega
set_option maxRecDepth 100000 in
theorem stepsL_one {n : Nat} (i : Nat) (h : n ≤ 1) : stepsL n i = [] := by rw [stepsL, dif_pos h]
set_option maxRecDepth 100000 in
theorem stepsL_left {n i : Nat} (h : 2 ≤ n) (hi : i < splitN n) : stepsL n i = false :: stepsL (splitN n) i := by rw [stepsL, dif_neg (by omega), if_pos hi]
set_option maxRecDepth 100000 in
theorem stepsL_right {n i : Nat} (h : 2 ≤ n) (hi : ¬ i < splitN n) : stepsL n i = true :: stepsL (n - splitN n) (i - splitN n) := by rw [stepsL, dif_neg (by omega), if_neg hi]
set_option maxRecDepth 100000 in
theorem stepsL_pos {n : Nat} (i : Nat) (h : 2 ≤ n) : 1 ≤ (stepsL n i).length := by
  by_cases hi : i < splitN n
  · rw [stepsL_left h hi, List.length_cons]; omega
  · rw [stepsL_right h hi, List.length_cons]; omega
set_option maxRecDepth 100000 in
/-- no more steps than the length has bits -/
theorem stepsL_bits (b : Nat) : ∀ n i, n ≤ 2 ^ b → (stepsL n i).length ≤ b := by
  induction b with
  | zero => intro n i h; rw [stepsL_one i (by simpa using h)]; exact Nat.le_refl _
  | succ b ih =>
    intro n i h
    by_cases h1 : n ≤ 1
    · rw [stepsL_one i h1]; exact Nat.zero_le _
    · obtain ⟨c, hc, hs⟩ := splitN_le (n := n) (by omega) h
      obtain rfl : b = c := by omega
      have hh := splitN_half (n := n) (by omega)
      by_cases hi : i < splitN n
      · rw [stepsL_left (by omega) hi, List.length_cons]
        have := ih (splitN n) i hs; omega
      · rw [stepsL_right (by omega) hi, List.length_cons]
        have := ih (n - splitN n) (i - splitN n) (by omega); omega
/-- up again -/
def upL (x : Int) : List Bool → List (List Int) → List Int → List Int
  | b :: bs, p :: ps, d => upL x bs ps (if b then nodeL p d x else nodeL d p x)
  | _, _, d => d
set_option maxRecDepth 100000 in
theorem upL_nil (x : Int) (ps : List (List Int)) (d : List Int) : upL x [] ps d = d := by cases ps <;> rfl
set_option maxRecDepth 100000 in
theorem upL_snoc (x : Int) (b : Bool) (p : List Int) : ∀ (rs : List Bool) (ps : List (List Int)) (d : List Int), rs.length = ps.length → upL x (rs ++ [b]) (ps ++ [p]) d = (if b then nodeL p (upL x rs ps d) x else nodeL (upL x rs ps d) p x) := by
  intro rs
  induction rs with
  | nil => intro ps d h; obtain rfl := List.eq_nil_of_length_eq_zero h.symm; rfl
  | cons c r ih =>
    intro ps d h
    cases ps with
    | nil => simp at h
    | cons q qs =>
      show upL x (r ++ [b]) (qs ++ [p]) _ = _
      rw [ih qs _ (by simpa using h)]; rfl
set_option maxRecDepth 100000 in
theorem upL_dg (x : Int) : ∀ (rs : List Bool) (ps : List (List Int)) (d : List Int), Dg d → Dg (upL x rs ps d) := by
  intro rs
  induction rs with
  | nil => intro ps d h; rw [upL_nil]; exact h
  | cons c r ih =>
    intro ps d h
    cases ps with
    | nil => exact h
    | cons q qs =>
      refine ih qs _ ?_
      split
      · exact nodeL_dg _ _ _
      · exact nodeL_dg _ _ _
set_option maxRecDepth 100000 in
theorem last_split (P : List (List Int)) (len : Nat) (h : P.length = len) (h1 : 1 ≤ len) : P = P.take (len - 1) ++ [P.getD (len - 1) []] := by
  have hlt : len - 1 < P.length := by omega
  have e := List.take_succ_eq_append_getElem hlt
  rw [List.getD_eq_getElem?_getD, List.getElem?_eq_getElem hlt]
  show _ = _ ++ [P[len - 1]]
  rw [← e, show len - 1 + 1 = P.length from by omega, List.take_length]
/-- whether a path is taken -/
def chkP (root : List Int) (n i : Int) (leaf : List Int) (P : List (List Int)) (x : Int) : Bool :=
  decide (0 ≤ i ∧ i < n) && (decide ((stepsL n.toNat i.toNat).length = P.length) && decide (upL x (stepsL n.toNat i.toNat).reverse P leaf = root))
set_option maxRecDepth 100000 in
/-- the path of a place leads to the root -/
theorem path_up (m : Nat) : ∀ (L : List (List Int)) (i : Nat) (x : Int), L.length ≤ m → i < L.length → (stepsL L.length i).length = (pathL L i x).length ∧ upL x (stepsL L.length i).reverse (pathL L i x) (L.getD i []) = rootL L x := by
  induction m with
  | zero => intro L i x h hi; omega
  | succ m ih =>
    intro L i x h hi
    by_cases h1 : L.length ≤ 1
    · obtain rfl : i = 0 := by omega
      rw [stepsL_one 0 h1, pathL_one L 0 x h1, rootL_one L x (by omega)]
      exact ⟨rfl, rfl⟩
    · have hp := splitN_pos (n := L.length) (by omega)
      have hlt := splitN_lt (n := L.length) (by omega)
      have et : (L.take (splitN L.length)).length = splitN L.length := by rw [List.length_take]; omega
      have ed : (L.drop (splitN L.length)).length = L.length - splitN L.length := List.length_drop ..
      rw [rootL_more L x (by omega)]
      by_cases hi2 : i < splitN L.length
      · rw [stepsL_left (by omega) hi2, pathL_left L i x (by omega) hi2]
        obtain ⟨e1, e2⟩ := ih (L.take (splitN L.length)) i x (by omega) (by omega)
        rw [et] at e1 e2
        have e3 : (L.take (splitN L.length)).getD i [] = L.getD i [] := by rw [List.getD_eq_getElem?_getD, List.getElem?_take, if_pos hi2, ← List.getD_eq_getElem?_getD]
        rw [e3] at e2
        refine ⟨by rw [List.length_cons, List.length_append, e1]; rfl, ?_⟩
        rw [List.reverse_cons, upL_snoc x false _ _ _ _ (by rw [List.length_reverse, e1]), e2]; rfl
      · rw [stepsL_right (by omega) hi2, pathL_right L i x (by omega) hi2]
        obtain ⟨e1, e2⟩ := ih (L.drop (splitN L.length)) (i - splitN L.length) x (by omega) (by omega)
        rw [ed] at e1 e2
        have e3 : (L.drop (splitN L.length)).getD (i - splitN L.length) [] = L.getD i [] := by rw [List.getD_eq_getElem?_getD, List.getElem?_drop, show splitN L.length + (i - splitN L.length) = i from by omega, ← List.getD_eq_getElem?_getD]
        rw [e3] at e2
        refine ⟨by rw [List.length_cons, List.length_append, e1]; rfl, ?_⟩
        rw [List.reverse_cons, upL_snoc x true _ _ _ _ (by rw [List.length_reverse, e1]), e2]; rfl
set_option maxRecDepth 100000 in
theorem chkP_yes (L : List (List Int)) (i : Nat) (x : Int) (hi : i < L.length) : chkP (rootL L x) (L.length : Int) (i : Int) (L.getD i []) (pathL L i x) x = true := by
  obtain ⟨e1, e2⟩ := path_up L.length L i x (Nat.le_refl _) hi
  unfold chkP
  rw [show ((L.length : Int)).toNat = L.length from by omega, show ((i : Int)).toNat = i from by omega, e1, e2]
  simp; omega

/-- the way down to where the first list ends -/
def gstepsL (n m : Nat) : List Bool :=
  if h : n ≤ m ∨ m = 0 then []
  else if m ≤ splitN n then false :: gstepsL (splitN n) m
  else true :: gstepsL (n - splitN n) (m - splitN n)
  termination_by n
  decreasing_by
    · exact splitN_lt (by omega)
    · have := splitN_pos (n := n) (by omega)
      omega
set_option maxRecDepth 100000 in
theorem gsteps_end {n m : Nat} (h : n ≤ m) : gstepsL n m = [] := by rw [gstepsL, dif_pos (.inl h)]
set_option maxRecDepth 100000 in
theorem gsteps_left {n m : Nat} (h1 : 1 ≤ m) (h : m < n) (hm : m ≤ splitN n) : gstepsL n m = false :: gstepsL (splitN n) m := by rw [gstepsL, dif_neg (by omega), if_pos hm]
set_option maxRecDepth 100000 in
theorem gsteps_right {n m : Nat} (h : m < n) (hm : ¬ m ≤ splitN n) : gstepsL n m = true :: gstepsL (n - splitN n) (m - splitN n) := by rw [gstepsL, dif_neg (by omega), if_neg hm]
set_option maxRecDepth 100000 in
theorem gsteps_bits (b : Nat) : ∀ n m, 1 ≤ m → n ≤ 2 ^ b → (gstepsL n m).length ≤ b := by
  induction b with
  | zero => intro n m h1 h; rw [gsteps_end (by have : n ≤ 1 := by simpa using h
                                               omega)]; exact Nat.le_refl _
  | succ b ih =>
    intro n m h1 h
    by_cases hm : n ≤ m
    · rw [gsteps_end hm]; exact Nat.zero_le _
    · obtain ⟨c, hc, hs⟩ := splitN_le (n := n) (by omega) h
      obtain rfl : b = c := by omega
      have hh := splitN_half (n := n) (by omega)
      by_cases hi : m ≤ splitN n
      · rw [gsteps_left h1 (by omega) hi, List.length_cons]
        have := ih (splitN n) m h1 hs; omega
      · rw [gsteps_right (by omega) hi, List.length_cons]
        have := ih (n - splitN n) (m - splitN n) (by omega) (by omega); omega
/-- is the first list whole at the way's end? -/
def gwh (b : Bool) (s : List Bool) : Bool := b && s.all (fun c => !c)
set_option maxRecDepth 100000 in
theorem gwh_false (b : Bool) (s : List Bool) : gwh b (false :: s) = gwh b s := by simp [gwh]
set_option maxRecDepth 100000 in
theorem gwh_true (b : Bool) (s : List Bool) : gwh b (true :: s) = false := by simp [gwh]
set_option maxRecDepth 100000 in
theorem gwh_no (s : List Bool) : gwh false s = false := rfl
/-- how many digests the growth has -/
def need (b : Bool) (s : List Bool) : Nat := s.length + (if gwh b s then 0 else 1)
set_option maxRecDepth 100000 in
theorem need_left (b : Bool) (s : List Bool) : need b (false :: s) = need b s + 1 := by
  unfold need; rw [gwh_false, List.length_cons]; omega
set_option maxRecDepth 100000 in
theorem need_right (b : Bool) (s : List Bool) : need b (true :: s) = need false s + 1 := by
  unfold need; rw [gwh_true, gwh_no, List.length_cons]; omega
/-- both roots, up again -/
def gup (x : Int) : List Bool → List (List Int) → List Int × List Int → List Int × List Int
  | b :: bs, p :: ps, d => gup x bs ps (if b then (nodeL p d.1 x, nodeL p d.2 x) else (d.1, nodeL d.2 p x))
  | _, _, d => d
set_option maxRecDepth 100000 in
theorem gup_nil (x : Int) (ps : List (List Int)) (d : List Int × List Int) : gup x [] ps d = d := by cases ps <;> rfl
set_option maxRecDepth 100000 in
theorem gup_snoc (x : Int) (b : Bool) (p : List Int) : ∀ (rs : List Bool) (ps : List (List Int)) (d : List Int × List Int), rs.length = ps.length → gup x (rs ++ [b]) (ps ++ [p]) d = (if b then (nodeL p (gup x rs ps d).1 x, nodeL p (gup x rs ps d).2 x) else ((gup x rs ps d).1, nodeL (gup x rs ps d).2 p x)) := by
  intro rs
  induction rs with
  | nil => intro ps d h; obtain rfl := List.eq_nil_of_length_eq_zero h.symm; rfl
  | cons c r ih =>
    intro ps d h
    cases ps with
    | nil => simp at h
    | cons q qs =>
      show gup x (r ++ [b]) (qs ++ [p]) _ = _
      rw [ih qs _ (by simpa using h)]; rfl
set_option maxRecDepth 100000 in
theorem gup_dg (x : Int) : ∀ (rs : List Bool) (ps : List (List Int)) (d : List Int × List Int), Dg d.1 → Dg d.2 → Dg (gup x rs ps d).1 ∧ Dg (gup x rs ps d).2 := by
  intro rs
  induction rs with
  | nil => intro ps d h1 h2; rw [gup_nil]; exact ⟨h1, h2⟩
  | cons c r ih =>
    intro ps d h1 h2
    cases ps with
    | nil => exact ⟨h1, h2⟩
    | cons q qs =>
      refine ih qs _ ?_ ?_ <;> split
      · exact nodeL_dg _ _ _
      · exact h1
      · exact nodeL_dg _ _ _
      · exact nodeL_dg _ _ _
/-- both roots, of the way, the old root and the growth -/
def gres (x : Int) (b : Bool) (s : List Bool) (P : List (List Int)) (old : List Int) : List Int × List Int :=
  if gwh b s then gup x s.reverse P (old, old) else gup x s.reverse (P.drop 1) (P.getD 0 [], P.getD 0 [])
set_option maxRecDepth 100000 in
theorem gres_left (x : Int) (b : Bool) (s : List Bool) (P : List (List Int)) (r old : List Int) (h : P.length = need b s) : gres x b (false :: s) (P ++ [r]) old = ((gres x b s P old).1, nodeL (gres x b s P old).2 r x) := by
  unfold gres need at *
  rw [gwh_false, List.reverse_cons]
  by_cases hg : gwh b s = true
  · rw [if_pos hg] at h ⊢
    rw [if_pos hg, gup_snoc x false r _ _ _ (by rw [List.length_reverse]; omega)]; rfl
  · rw [if_neg hg] at h ⊢
    rw [if_neg hg, List.drop_append_of_le_length (by omega), show (P ++ [r]).getD 0 [] = P.getD 0 [] from by rw [List.getD_eq_getElem?_getD, List.getElem?_append_left (by omega), ← List.getD_eq_getElem?_getD],
      gup_snoc x false r _ _ _ (by rw [List.length_reverse, List.length_drop]; omega)]; rfl
set_option maxRecDepth 100000 in
theorem gres_right (x : Int) (b : Bool) (s : List Bool) (P : List (List Int)) (r old : List Int) (h : P.length = need false s) : gres x b (true :: s) (P ++ [r]) old = (nodeL r (gres x false s P old).1 x, nodeL r (gres x false s P old).2 x) := by
  unfold gres need at *
  rw [gwh_true, gwh_no] at *
  simp only [Bool.false_eq_true, if_false] at h ⊢
  rw [List.reverse_cons, List.drop_append_of_le_length (by omega), show (P ++ [r]).getD 0 [] = P.getD 0 [] from by rw [List.getD_eq_getElem?_getD, List.getElem?_append_left (by omega), ← List.getD_eq_getElem?_getD],
    gup_snoc x true r _ _ _ (by rw [List.length_reverse, List.length_drop]; omega)]; rfl
/-- whether a growth is taken -/
def chkG (old : List Int) (m : Int) (root : List Int) (n : Int) (P : List (List Int)) (x : Int) : Bool :=
  decide (1 ≤ m ∧ m ≤ n) && (decide (P.length = need true (gstepsL n.toNat m.toNat)) && (decide ((gres x true (gstepsL n.toNat m.toNat) P old).1 = old) && decide ((gres x true (gstepsL n.toNat m.toNat) P old).2 = root)))
set_option maxRecDepth 100000 in
/-- the growth leads from the one root to the other -/
theorem grow_up (k : Nat) : ∀ (L : List (List Int)) (m : Nat) (b : Bool) (x : Int) (old : List Int), L.length ≤ k → 1 ≤ m → m ≤ L.length → (b = true → old = rootL (L.take m) x) → (growL L m b x).length = need b (gstepsL L.length m) ∧ gres x b (gstepsL L.length m) (growL L m b x) old = (rootL (L.take m) x, rootL L x) := by
  induction k with
  | zero => intro L m b x old h h1 h2; omega
  | succ k ih =>
    intro L m b x old h h1 h2 ho
    by_cases hm : m = L.length
    · subst hm
      rw [gsteps_end (Nat.le_refl _), List.take_length]
      rw [List.take_length] at ho
      cases b with
      | true => rw [growL_all, ← ho rfl]; exact ⟨rfl, rfl⟩
      | false => rw [growL_some]; exact ⟨rfl, rfl⟩
    · have hp := splitN_pos (n := L.length) (by omega)
      have hlt := splitN_lt (n := L.length) (by omega)
      have et : (L.take (splitN L.length)).length = splitN L.length := by rw [List.length_take]; omega
      have ed : (L.drop (splitN L.length)).length = L.length - splitN L.length := List.length_drop ..
      by_cases hi : m ≤ splitN L.length
      · have e3 : (L.take (splitN L.length)).take m = L.take m := by rw [List.take_take, Nat.min_eq_left hi]
        obtain ⟨e1, e2⟩ := ih (L.take (splitN L.length)) m b x old (by omega) h1 (by omega) (by rw [e3]; exact ho)
        rw [et] at e1 e2
        rw [gsteps_left h1 (by omega) hi, growL_left L m b x h1 (by omega) hi, need_left, gres_left x b _ _ _ old e1, e2, e3, ← rootL_more L x (by omega)]
        exact ⟨by rw [List.length_append, e1]; rfl, rfl⟩
      · obtain ⟨e1, e2⟩ := ih (L.drop (splitN L.length)) (m - splitN L.length) false x old (by omega) (by omega) (by omega) (by intro h; cases h)
        rw [ed] at e1 e2
        rw [gsteps_right (by omega) hi, growL_right L m b x (by omega) hi, need_right, gres_right x b _ _ _ old e1, e2]
        refine ⟨by rw [List.length_append, e1]; rfl, ?_⟩
        rw [← rootL_more L x (by omega)]
        congr 1
        have hml : (L.take m).length = m := by rw [List.length_take]; omega
        have hsp : splitN m = splitN L.length := by
          obtain ⟨j, hj⟩ := splitN_pow (n := L.length) (by omega)
          have hh := splitN_half (n := L.length) (by omega)
          rw [hj] at hi hh ⊢
          exact splitN_of (by omega) (by rw [Nat.pow_succ]; omega)
        rw [rootL_more (L.take m) x (by omega), hml, hsp, List.take_take, Nat.min_eq_left (by omega), List.drop_take]
set_option maxRecDepth 100000 in
theorem chkG_yes (L : List (List Int)) (m : Nat) (x : Int) (h1 : 1 ≤ m) (h2 : m ≤ L.length) : chkG (rootL (L.take m) x) (m : Int) (rootL L x) (L.length : Int) (growL L m true x) x = true := by
  obtain ⟨e1, e2⟩ := grow_up L.length L m true x (rootL (L.take m) x) (Nat.le_refl _) h1 h2 (fun _ => rfl)
  unfold chkG
  rw [show ((L.length : Int)).toNat = L.length from by omega, show ((m : Int)).toNat = m from by omega, e1, e2]
  simp; omega
set_option maxRecDepth 100000 in
theorem grow_bits (L : List (List Int)) (m b : Nat) (x : Int) (h1 : 1 ≤ m) (h2 : m ≤ L.length) (hb : L.length ≤ 2 ^ b) : (growL L m true x).length ≤ b + 1 := by
  obtain ⟨e1, _⟩ := grow_up L.length L m true x (rootL (L.take m) x) (Nat.le_refl _) h1 h2 (fun _ => rfl)
  have := gsteps_bits b L.length m h1 hb
  rw [e1]; unfold need; split <;> omega
set_option maxRecDepth 100000 in
theorem path_bits (L : List (List Int)) (i b : Nat) (x : Int) (h : i < L.length) (hb : L.length ≤ 2 ^ b) : (pathL L i x).length ≤ b := by
  obtain ⟨e1, _⟩ := path_up L.length L i x (Nat.le_refl _) h
  rw [← e1]; exact stepsL_bits b L.length i hb
end Go.Proofs.YtbednfacipphhaaDoor
