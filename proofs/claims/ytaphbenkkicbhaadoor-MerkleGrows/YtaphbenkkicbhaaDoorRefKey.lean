/- What the document's three, key and First answer. -/
import Derived.Test.YtaphbenkkicbhaaDoorShaMath
import Derived.Test.YtaphbenkkicbhaaDoorTurn
namespace Go.Proofs.YtaphbenkkicbhaaDoor
open Go.RowKit
set_option linter.unusedVariables false

set_option maxHeartbeats 400000 in
theorem three_any (x a b c : Int) (w : World) (hx : U32 x) (ha : -9223372036854775808 ≤ a ∧ a ≤ 9223372036854775807) (hb : -9223372036854775808 ≤ b ∧ b ≤ 9223372036854775807) (hc : -9223372036854775808 ≤ c ∧ c ≤ 9223372036854775807) :
    Calls Tryd.prog 60 #[.int .u32 x, .int .i64 a, .int .i64 b, .int .i64 c] w fun e w' => e = .returned (.int .u32 (thr x a b c)) ∧ w = w' := by
  have h1 := xr_eq (turn_u a hx) (turn_u b hx)
  have h2 := xr_eq (xr_u (turn_u a hx) (turn_u b hx)) (turn_u c hx)
  go_enter Tryd.func60, Tryd.ntmps60
  go_wp2_with fail
  refine (refturn_any x a _ hx.1 hx.2 ha.1 ha.2).mono ?_
  rintro e w' ⟨rfl, rfl⟩
  go_wp2_with fail
  refine (refturn_any x b _ hx.1 hx.2 hb.1 hb.2).mono ?_
  rintro e w' ⟨rfl, rfl⟩
  go_wp2_with fail
  refine (refturn_any x c _ hx.1 hx.2 hc.1 hc.2).mono ?_
  rintro e w' ⟨rfl, rfl⟩
  go_wp2
  go_ret
  exact ⟨rfl, rfl⟩

theorem uv_getD (l : List Int) (i : Nat) (h : i < l.length) : (uv l)[i]? = some (.int .u32 (l.getD i 0)) := by
  rw [uv, List.getElem?_map, List.getElem?_eq_getElem h, List.getD_eq_getElem?_getD, List.getElem?_eq_getElem h]; rfl
theorem keyL_length : keyL.length = 64 := rfl
theorem keyL_size : (uv keyL).toArray.size = 64 := rfl
theorem key_info : (Tryd.prog.info? 86).map (·.size) = some (uv keyL).toArray.size := by kernel_rfl
set_option maxRecDepth 100000 in
set_option maxHeartbeats 400000 in
theorem key_any (i : Nat) (w : World) (hi : i < 64) :
    Calls Tryd.prog 61 #[.int .i64 i] w fun e w' => e = .returned (.int .u32 (keyL.getD i 0)) ∧ Below w.heap.size w w' := by
  go_enter Tryd.func61, Tryd.ntmps61
  iterate 11 go_step
  refine wpList_run rfl (.agg (uv keyL).toArray) w (by kernel_rfl) ?_
  refine wpList_run rfl (.pointer (some ⟨w.heap.size, 0, none⟩)) (w.alloc (.cells (Array.replicate 64 (.int .u32 0)) 86)) (by kernel_rfl) ?_
  have ht := there_new w (Array.replicate 64 (.int .u32 0)) 86
  rw [Array.size_replicate] at ht
  refine wpList_store_mid rfl 86 _ _ rfl w.heap.size 0 (uv keyL).toArray rfl rfl (by rw [keyL_size]; exact ht) key_info (all_oneCell_toArray (uv_one keyL)) ?_
  have hc : ((w.alloc (.cells (Array.replicate 64 (.int .u32 0)) 86)).setCells w.heap.size 0 (uv keyL).toArray.toList).cell? ⟨w.heap.size, i, none⟩ = some (.int .u32 (keyL.getD i 0)) := by
    rw [List.toList_toArray, cell_stored ht (by rw [uv_length, keyL_length]) i hi]
    exact uv_getD keyL i (by rw [keyL_length]; exact hi)
  have hb : Below w.heap.size w ((w.alloc (.cells (Array.replicate 64 (.int .u32 0)) 86)).setCells w.heap.size 0 (uv keyL).toArray.toList) :=
    below_setCells ((Below.refl _ _).alloc (Nat.le_refl _) _) _ (Nat.le_refl _) _ _
  generalize (w.alloc (.cells (Array.replicate 64 (.int .u32 0)) 86)).setCells w.heap.size 0 (uv keyL).toArray.toList = W at hc hb ⊢
  clear ht
  generalize hK : keyL.getD i 0 = K at hc
  have HK : Hid (keyL.getD i 0 = K) := hK
  clear hK
  generalize (uv keyL).toArray = arr
  go_wp2
  go_ret
  exact ⟨ret_int HK.out.symm, hb⟩
set_option maxHeartbeats 400000 in
theorem reffirst_any (w : World) :
    Calls Tryd.prog 48 #[] w fun e w' => e = .returned (.agg (uv [1779033703, 3144134277, 1013904242, 2773480762, 1359893119, 2600822924, 528734635, 1541459225]).toArray) ∧ Below w.heap.size w w' := by
  go_enter Tryd.func48, Tryd.ntmps48
  go_wp2
  exact bodyPost_ret (v := .agg #[.int .u32 1779033703, .int .u32 3144134277, .int .u32 1013904242, .int .u32 2773480762, .int .u32 1359893119, .int .u32 2600822924, .int .u32 528734635, .int .u32 1541459225]) (by simp [results, Tryd.results48, go_sem]) rfl ⟨rfl, (Below.refl _ _).alloc (Nat.le_refl _) _⟩
end Go.Proofs.YtaphbenkkicbhaaDoor
