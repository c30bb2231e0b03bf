/- The texts of which leaves and nodes are the sums; two digests, one behind the other. -/
import Derived.Test.YtfkloilbjfleeaaDoorNode
import Derived.Test.YtfkloilbjfleeaaDoorSme
import Derived.Test.YtfkloilbjfleeaaDoorSmd
import Derived.Laws.Tables
namespace Go.Proofs.YtfkloilbjfleeaaDoor
open Go.RowKit
set_option linter.unusedVariables false

set_option maxRecDepth 100000 in
theorem concat2_new (b : Nat) (a0 a1 : Option Addr) (n0 n1 c0 c1 : Nat) (l0 l1 : List Int) (w : World) (h0 : w.cell? ⟨b, 0, none⟩ = some (.slice a0 n0 c0)) (h1 : w.cell? ⟨b, 1, none⟩ = some (.slice a1 n1 c1)) (hblt : b < w.heap.size)
    (B0 : Bts w a0 n0 c0 l0) (B1 : Bts w a1 n1 c1 l1) (hbd : n0 + n1 ≤ 1099511627776) :
    Calls Tryd.prog 58 #[.slice (some ⟨b, 0, none⟩) 2 2] w fun e w' => ∃ a c, e = .returned (.slice a (n0 + n1) c) ∧ Bts w' a (n0 + n1) c (l0 ++ l1) ∧ (∀ p, a = some p → w.heap.size ≤ p.block) ∧ Below w.heap.size w w' := by
  have hc : catL (fun i => if i = 0 then l0 else l1) 2 = l0 ++ l1 := by simp [catL]
  have hl : (catL (fun i => if i = 0 then l0 else l1) 2).length = n0 + n1 := by rw [hc, List.length_append, B0.len_eq, B1.len_eq]
  refine (concat_any 2 b (fun i => if i = 0 then a0 else a1) (fun i => if i = 0 then n0 else n1) (fun i => if i = 0 then c0 else c1) (fun i => if i = 0 then l0 else l1) w (fun i hi => ?_) hblt (fun i hi => ?_) (by rw [hl]; exact hbd) (by decide)).mono ?_
  · match i, hi with
    | 0, _ => exact h0
    | 1, _ => exact h1
  · match i, hi with
    | 0, _ => exact B0
    | 1, _ => exact B1
  · rintro e w' ⟨v, rfl, ho, hb⟩
    rw [hl, hc] at ho
    obtain ⟨ao, cap, rfl, hB⟩ := Bts.of_owns ho (B0.byt.append B1.byt)
    exact ⟨ao, cap, rfl, hB, fun p hp => (ho.lt p.block (by rw [hp]; rfl)).1, hb⟩

set_option maxRecDepth 100000 in
set_option maxHeartbeats 400000 in
theorem leaftext_any (a : Option Addr) (len cap : Nat) (b : List Int) (w : World) (hb : Bts w a len cap b) (hbd : len ≤ 1000000) :
    Calls Tryd.prog 38 #[.slice a len cap] w fun e w' => ∃ a' c', e = .returned (.slice a' (1 + len) c') ∧ Bts w' a' (1 + len) c' (0 :: b) ∧ (∀ p, a' = some p → w.heap.size ≤ p.block) ∧ Below w.heap.size w w' := by
  go_enter Tryd.func38, Tryd.ntmps38
  go_wp2_with fail
  have hone := bts_one w 0 (by decide)
  have hb1 : Below w.heap.size w (w.alloc (.cells #[.int .u8 0] 5)) := (Below.refl _ _).alloc (Nat.le_refl _) _
  have hs1 : (w.alloc (.cells #[.int .u8 0] 5)).heap.size = w.heap.size + 1 := by simp
  generalize w.alloc (.cells #[.int .u8 0] 5) = w1 at hone hb1 hs1 ⊢
  have hrow2 : (w1.alloc (.cells #[.slice (some ⟨w.heap.size, 0, none⟩) 1 1, .slice a len cap] 22)).heap[w.heap.size + 1]? = some (.cells #[.slice (some ⟨w.heap.size, 0, none⟩) 1 1, .slice a len cap] 22 (0, 0)) := by
    rw [show w.heap.size + 1 = w1.heap.size from by omega]; exact heap_alloc_new _ _
  have hb2 : Below w1.heap.size w1 (w1.alloc (.cells #[.slice (some ⟨w.heap.size, 0, none⟩) 1 1, .slice a len cap] 22)) := (Below.refl _ _).alloc (Nat.le_refl _) _
  generalize w1.alloc (.cells #[.slice (some ⟨w.heap.size, 0, none⟩) 1 1, .slice a len cap] 22) = w2 at hrow2 hb2 ⊢
  have hlow2 := bstep hb1 hb2
  have hB1 := hb.below hlow2
  have hB0 := hone.below hb2
  refine (concat2_new (w.heap.size + 1) _ _ 1 len 1 cap [0] b _ (cell_of_row _ _ 0 _ _ (0, 0) hrow2) (cell_of_row _ _ 1 _ _ (0, 0) hrow2) (Array.getElem?_eq_some_iff.1 hrow2).1 hB0 hB1 (by omega)).mono ?_
  rintro e w3 ⟨a3, c3, rfl, hB3, hnew, hb3⟩
  have hlow3 := bstep hlow2 hb3
  have HNW : Hid (∀ p, a3 = some p → w.heap.size ≤ p.block) := fun p hp => Nat.le_trans hlow2.size (hnew p hp)
  clear hB1 hB0 hlow2 hrow2 hb2 hone hb1 hs1 hb3 hnew
  go_wp2
  go_ret
  exact ⟨a3, c3, rfl, hB3, HNW.out, hlow3⟩

set_option maxRecDepth 100000 in
/-- a stretch of a row of bytes -/
theorem bts_mid {w : World} {g o n : Nat} {l : List Int} {t : TypeId} (h : w.heap[g]? = some (.cells (bv l).toArray t (0, 0))) (hb : Byt l) (hn : o + n ≤ l.length) (hm : n ≤ maxLen) : Bts w (some ⟨g, o, none⟩) n n ((l.drop o).take n) := by
  refine ⟨by rw [List.length_take, List.length_drop]; omega, fun c hc => hb c (List.mem_of_mem_drop (List.mem_of_mem_take hc)), Nat.le_refl _, hm, (fun hh => by cases hh), fun _ => ⟨g, o, rfl, (Array.getElem?_eq_some_iff.1 h).1, fun i hi => ?_⟩⟩
  rw [bv_cell h (o + i) (by omega), List.getD_eq_getElem?_getD, List.getD_eq_getElem?_getD, List.getElem?_take, if_pos hi, List.getElem?_drop]
set_option maxRecDepth 100000 in
theorem dig_all_at (O o : Nat) (w : World) : (Instr.sliceAt 42 (.pointer (some ⟨O, o, none⟩)) none none none).run Tryd.prog w = .ok (.slice (some ⟨O, o, none⟩) 32 32) w := by
  have hlen : Tryd.prog.arrayLen 42 = 32 := by kernel_rfl
  have ht : Tryd.prog.underlying 42 = some (.array (Tryd.prog.arrayLen 42) (Tryd.prog.elem 42)) := by kernel_rfl
  have hsz : (sizeOf (Tryd.prog.elem 42)).run Tryd.prog w = .ok 1 w := by kernel_rfl
  rw [run_sliceAt_array_all w 42 ⟨O, o, none⟩ ht, hsz, hlen]
  simp only [Result.andThen_ok, slicedAt]
  rw [if_neg (by decide), Addr.add_lit]
  rfl
/-- two digests in a variable -/
structure NT (N : Nat) (k : List Int) (w wr : World) : Prop where
  low : Below N w wr
  row : wr.heap[N]? = some (.cells (bv k).toArray 86 (0, 0))
set_option maxRecDepth 100000 in
theorem NT.lt {N : Nat} {k : List Int} {w wr : World} (h : NT N k w wr) : N < wr.heap.size := (Array.getElem?_eq_some_iff.1 h.row).1
set_option maxRecDepth 100000 in
theorem NT.step {N : Nat} {k : List Int} {w wr w1 : World} (h : NT N k w wr) (hb : Below wr.heap.size wr w1) : NT N k w w1 := ⟨h.low.trans (hb.mono (Nat.le_of_lt h.lt)), (hb.block _ h.lt).trans h.row⟩
set_option maxRecDepth 100000 in
theorem NT.drewN {N : Nat} {k : List Int} {w wr : World} (h : NT N k w wr) (q : Nat) : NT N k w (wr.drewN q) := ⟨below_drewN h.low q, h.row⟩

set_option maxRecDepth 100000 in
set_option maxHeartbeats 1000000 in
theorem nodetext_any (k : List Int) (w : World) (hk64 : k.length = 64) (hkb : Byt k) :
    Calls Tryd.prog 65 #[.agg (bv k).toArray] w fun e w' => ∃ a c, e = .returned (.slice a 65 c) ∧ Bts w' a 65 c (1 :: k) ∧ Below w.heap.size w w' := by
  have hb0 : Below w.heap.size w (w.alloc (.cells (bv k).toArray 86)) := (Below.refl _ _).alloc (Nat.le_refl _) _
  have hnt : NT w.heap.size k w (w.alloc (.cells (bv k).toArray 86)) := ⟨hb0, heap_alloc_new _ _⟩
  have hKE : Hid (k.take 32 ++ (k.drop 32).take 32 = k) := by
    show _ = _
    rw [show (k.drop 32).take 32 = k.drop 32 from List.take_of_length_le (by rw [List.length_drop]; omega), List.take_append_drop]
  clear hb0
  obtain ⟨N, hN⟩ : ∃ N, N = w.heap.size := ⟨_, rfl⟩
  rw [← hN] at hnt
  have HN : Hid (N = w.heap.size) := hN
  clear hN
  have hda0 := dig_all_at N 0
  have hda1 := dig_all_at N 32
  go_enter Tryd.func65, Tryd.ntmps65
  go_wp2_with fail
  generalize w.alloc (.cells (bv k).toArray 86) = w0 at hnt ⊢
  rw [← HN.out]
  have hk : NT N k w w0.drew := hnt.drewN 1
  clear hnt
  refine wp_region_held_drew (S := fun W => NT N k w W) (by kernel_rfl) hk (fun _ => ?_)
  generalize w0.drew = wd at hk ⊢
  refine wpAnyH_take (i := 1) (oi := { dst := some 4, op := Op.indexAddr 86 (Operand.tmp 1) (Operand.const (Value.int IntKind.i64 0)), type := 0, pos := "clash.go:115", after := #[], guard := none }) (v := ?vntext1) rfl (by kernel_rfl) (by kernel_rfl) (by kernel_rfl) (fun _ _ _ h => h) (Or.inl ⟨by rfl, ?yntext1⟩) hk ?rntext1
  case yntext1 => (intro w hSw; (try dsimp only at hSw); go_simp; first | done | with_reducible rfl)
  simp only [Act.put, List.setIfInBounds_toArray, List.set_cons_zero, List.set_cons_succ]
  refine wpAnyH_take (i := 2) (oi := { dst := some 5, op := Op.slice 42 (Operand.tmp 4) none none none, type := 22, pos := "clash.go:115", after := #[{ on := 1, ground := Ground.data }], guard := none }) (v := ?vntext2) rfl (by kernel_rfl) (by kernel_rfl) (by kernel_rfl) (fun _ _ _ h => h) (Or.inl ⟨by rfl, ?yntext2⟩) hk ?rntext2
  case yntext2 => (intro w hSw; (try dsimp only at hSw); go_simp; first | done | with_reducible rfl)
  simp only [Act.put, List.setIfInBounds_toArray, List.set_cons_zero, List.set_cons_succ]
  refine wpAnyH_take (i := 3) (oi := { dst := some 6, op := Op.indexAddr 86 (Operand.tmp 1) (Operand.const (Value.int IntKind.i64 1)), type := 0, pos := "clash.go:115", after := #[], guard := none }) (v := ?vntext3) rfl (by kernel_rfl) (by kernel_rfl) (by kernel_rfl) (fun _ _ _ h => h) (Or.inl ⟨by rfl, ?yntext3⟩) hk ?rntext3
  case yntext3 => (intro w hSw; (try dsimp only at hSw); go_simp; first | done | with_reducible rfl)
  simp only [Act.put, List.setIfInBounds_toArray, List.set_cons_zero, List.set_cons_succ]
  refine wpAnyH_take (i := 4) (oi := { dst := some 7, op := Op.slice 42 (Operand.tmp 6) none none none, type := 22, pos := "clash.go:115", after := #[{ on := 3, ground := Ground.data }], guard := none }) (v := ?vntext4) rfl (by kernel_rfl) (by kernel_rfl) (by kernel_rfl) (fun _ _ _ h => h) (Or.inl ⟨by rfl, ?yntext4⟩) hk ?rntext4
  case yntext4 => (intro w hSw; (try dsimp only at hSw); go_simp; first | done | with_reducible rfl)
  simp only [Act.put, List.setIfInBounds_toArray, List.set_cons_zero, List.set_cons_succ]
  refine wpAnyH_ready (rs := [0]) (by decide +kernel) (by simp) ?_
  refine AllReadyH.cons (o := { dst := some 3, op := Op.buildSlice 22 1 #[(0, Operand.const (Value.int IntKind.u8 1))], type := 22, pos := "clash.go:115", after := #[], guard := none }) rfl (fun K hK => ?_) AllReadyH.nil
  go_simp
  have hone := bts_one wd 1 (by decide)
  have hbA : Below wd.heap.size wd (wd.alloc (.cells #[.int .u8 1] 5)) := (Below.refl _ _).alloc (Nat.le_refl _) _
  replace hk := hk.step hbA
  generalize wd.alloc (.cells #[.int .u8 1] 5) = wA at hone hk ⊢
  clear hbA
  refine hK.out _ _ hk (fun _ => ?_)
  clear hK K
  try simp only [Act.put, List.setIfInBounds_toArray, List.set_cons_zero, List.set_cons_succ]
  refine wpAnyH_ready (rs := [5]) (by decide +kernel) (by simp) ?_
  refine AllReadyH.cons (o := { dst := some 8, op := Op.buildSlice 29 3 #[(0, Operand.tmp 3), (1, Operand.tmp 5), (2, Operand.tmp 7)], type := 29, pos := "clash.go:115", after := #[{ on := 0, ground := Ground.data }, { on := 2, ground := Ground.data }, { on := 4, ground := Ground.data }], guard := none }) rfl (fun K hK => ?_) AllReadyH.nil
  go_simp
  have hrow2 : (wA.alloc (.cells #[.slice (some ⟨wd.heap.size, 0, none⟩) 1 1, .slice (some ⟨N, 0, none⟩) 32 32, .slice (some ⟨N, 32, none⟩) 32 32] 22)).heap[wA.heap.size]? = some (.cells #[.slice (some ⟨wd.heap.size, 0, none⟩) 1 1, .slice (some ⟨N, 0, none⟩) 32 32, .slice (some ⟨N, 32, none⟩) 32 32] 22 (0, 0)) := heap_alloc_new _ _
  have hbB : Below wA.heap.size wA (wA.alloc (.cells #[.slice (some ⟨wd.heap.size, 0, none⟩) 1 1, .slice (some ⟨N, 0, none⟩) 32 32, .slice (some ⟨N, 32, none⟩) 32 32] 22)) := (Below.refl _ _).alloc (Nat.le_refl _) _
  replace hk := hk.step hbB
  replace hone := hone.below hbB
  have hBy := bts_mid (o := 0) (n := 32) hk.row hkb (by omega) (by unfold maxLen; omega)
  have hBz := bts_mid (o := 32) (n := 32) hk.row hkb (by omega) (by unfold maxLen; omega)
  generalize wA.alloc (.cells #[.slice (some ⟨wd.heap.size, 0, none⟩) 1 1, .slice (some ⟨N, 0, none⟩) 32 32, .slice (some ⟨N, 32, none⟩) 32 32] 22) = wB at hrow2 hone hk hBy hBz ⊢
  clear hbB
  refine hK.out _ _ hk (fun _ => ?_)
  clear hK K
  try simp only [Act.put, List.setIfInBounds_toArray, List.set_cons_zero, List.set_cons_succ]
  refine wpAnyH_ready (rs := [6]) (by decide +kernel) (by simp) ?_
  refine AllReadyH.cons (o := { dst := some 9, op := Op.call { callee := Callee.value (Operand.func 58), args := #[Operand.tmp 8], argTypes := #[29] }, type := 22, pos := "clash.go:115", after := #[{ on := 5, ground := Ground.data }], guard := none }) rfl (fun K hK => ?_) AllReadyH.nil
  go_simp
  refine (concat3 wA.heap.size _ _ _ 1 32 32 1 32 32 [1] _ _ wB (cell_of_row _ _ 0 _ _ (0, 0) hrow2) (cell_of_row _ _ 1 _ _ (0, 0) hrow2) (cell_of_row _ _ 2 _ _ (0, 0) hrow2) (Array.getElem?_eq_some_iff.1 hrow2).1 hone hBy hBz (by decide)).mono ?_
  rintro e1 w6 ⟨a6, c6, rfl, hB6, hb6⟩
  replace hk := hk.step hb6
  clear hb6 hBy hBz hone hrow2
  refine hK.out _ _ hk (fun _ => ?_)
  clear hK K
  try simp only [Act.put, List.setIfInBounds_toArray, List.set_cons_zero, List.set_cons_succ]
  refine wpAnyH_take (i := 7) (oi := { dst := some 2, op := Op.assign (Operand.tmp 9), type := 22, pos := "clash.go:115", after := #[{ on := 6, ground := Ground.data }, { on := 6, ground := Ground.chain }, { on := 0, ground := Ground.phase }, { on := 1, ground := Ground.phase }, { on := 2, ground := Ground.phase }, { on := 3, ground := Ground.phase }, { on := 4, ground := Ground.phase }, { on := 5, ground := Ground.phase }, { on := 6, ground := Ground.phase }], guard := none }) (v := ?vntext5) rfl (by kernel_rfl) (by kernel_rfl) (by kernel_rfl) (fun _ _ _ h => h) (Or.inl ⟨by rfl, ?yntext5⟩) hk ?rntext5
  case yntext5 => (intro w hSw; (try dsimp only at hSw); go_simp; first | done | with_reducible rfl)
  simp only [Act.put, List.setIfInBounds_toArray, List.set_cons_zero, List.set_cons_succ]
  refine wpAnyH_done (by decide +kernel) ?_ _
  have hlow : Below w.heap.size w w6 := by rw [← HN.out]; exact hk.low
  clear hk hda0 hda1
  go_wp2
  go_ret
  exact ⟨a6, c6, rfl, hB6.list (congrArg (List.cons 1) hKE.out), hlow⟩
end Go.Proofs.YtfkloilbjfleeaaDoor
