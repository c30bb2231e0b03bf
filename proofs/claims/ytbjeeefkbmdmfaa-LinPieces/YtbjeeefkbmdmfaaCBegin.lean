/- A walk begins. -/
import Derived.Test.YtbjeeefkbmdmfaaLng
import Derived.Deep.CutRange
import Derived.Deep.OwnRows
import Derived.BigRegion
namespace Go.Proofs.Ytbjeeefkbmdmfaa
open Go.RowKit
set_option linter.unusedVariables false

set_option maxRecDepth 100000 in
theorem Try.infoI : (Try.prog.info? 3).map (fun i => (i.zero, i.size, i.bytes)) = some (some (.int .i64 0), 1, 8) := by kernel_rfl
set_option maxRecDepth 100000 in
theorem Try.infoB : (Try.prog.info? 4).map (fun i => (i.zero, i.size, i.bytes)) = some (some (.bool false), 1, 1) := by kernel_rfl
set_option maxRecDepth 100000 in
theorem made_one (z : Value) (n : Nat) : (madeCells #[z] n).toList = List.replicate n z := by
  apply List.ext_getElem?
  intro i
  by_cases hi : i < n
  · rw [Array.getElem?_toList]
    unfold madeCells
    rw [Array.getElem?_map, Array.getElem?_range, if_pos hi, List.getElem?_replicate, if_pos hi]
    simp [Nat.mod_one]
  · rw [List.getElem?_eq_none (by rw [Array.length_toList, size_madeCells]; omega), List.getElem?_eq_none (by rw [List.length_replicate]; omega)]
set_option maxRecDepth 100000 in
theorem made_iv (n : Nat) : (madeCells #[.int .i64 0] n).toList = (List.replicate n (0 : Int)).flatMap ivC := by
  rw [made_one, iv_map, List.map_replicate]
set_option maxRecDepth 100000 in
theorem made_bv (n : Nat) : (madeCells #[.bool false] n).toList = (G0 n).flatMap bvC := by
  unfold G0; rw [made_one, bv_map, List.map_replicate]
set_option maxRecDepth 100000 in
theorem wk_new1 {T : TypeId} (w : World) (a : Option Addr) (len cap : Nat) (hl : len ≤ 1000000) (ob : Obj)
    (hob : ob = .cells #[.slice a len cap, .slice (some ⟨w.heap.size, 0, none⟩) len len, .slice (some ⟨w.heap.size + 1, 0, none⟩) len len] T) :
    Wk T w.heap.size (((w.alloc (.cells (madeCells #[.int .i64 0] len) 3)).alloc (.cells (madeCells #[.bool false] len) 4)).alloc ob) (w.heap.size + 1 + 1) w.heap.size len (w.heap.size + 1) len a len cap (List.replicate len 0) (G0 len) := by
  subst hob
  have e1 : (w.alloc (.cells (madeCells #[.int .i64 0] len) 3)).heap.size = w.heap.size + 1 := World.size_alloc w _
  have e2 : ((w.alloc (.cells (madeCells #[.int .i64 0] len) 3)).alloc (.cells (madeCells #[.bool false] len) 4)).heap.size = w.heap.size + 1 + 1 := by rw [World.size_alloc, e1]
  have o1 := World.ownsRow_lit (base := w.heap.size) (e := 3) (size := 1) w (madeCells #[.int .i64 0] len) len (Nat.le_refl _) (by unfold maxLen; omega) (by rw [size_madeCells, Nat.mul_one])
  have o2 := World.ownsRow_lit (base := w.heap.size) (e := 4) (size := 1) (w.alloc (.cells (madeCells #[.int .i64 0] len) 3)) (madeCells #[.bool false] len) len (by rw [e1]; omega) (by unfold maxLen; omega) (by rw [size_madeCells, Nat.mul_one])
  rw [made_iv] at o1
  rw [made_bv, e1] at o2
  refine ⟨?_, (o1.alloc _).alloc _, o2.alloc _, by omega, by omega, by omega, by omega, by rw [List.length_replicate], by unfold G0; rw [List.length_replicate]⟩
  rw [← e2]; exact heap_alloc_new _ _
set_option maxRecDepth 100000 in
theorem wk_new2 {T : TypeId} (w : World) (a : Option Addr) (len cap : Nat) (hl : len ≤ 1000000) (ob : Obj)
    (hob : ob = .cells #[.slice a len cap, .slice (some ⟨w.heap.size + 1, 0, none⟩) len len, .slice (some ⟨w.heap.size, 0, none⟩) len len] T) :
    Wk T w.heap.size (((w.alloc (.cells (madeCells #[.bool false] len) 4)).alloc (.cells (madeCells #[.int .i64 0] len) 3)).alloc ob) (w.heap.size + 1 + 1) (w.heap.size + 1) len w.heap.size len a len cap (List.replicate len 0) (G0 len) := by
  subst hob
  have e1 : (w.alloc (.cells (madeCells #[.bool false] len) 4)).heap.size = w.heap.size + 1 := World.size_alloc w _
  have e2 : ((w.alloc (.cells (madeCells #[.bool false] len) 4)).alloc (.cells (madeCells #[.int .i64 0] len) 3)).heap.size = w.heap.size + 1 + 1 := by rw [World.size_alloc, e1]
  have o1 := World.ownsRow_lit (base := w.heap.size) (e := 4) (size := 1) w (madeCells #[.bool false] len) len (Nat.le_refl _) (by unfold maxLen; omega) (by rw [size_madeCells, Nat.mul_one])
  have o2 := World.ownsRow_lit (base := w.heap.size) (e := 3) (size := 1) (w.alloc (.cells (madeCells #[.bool false] len) 4)) (madeCells #[.int .i64 0] len) len (by rw [e1]; omega) (by unfold maxLen; omega) (by rw [size_madeCells, Nat.mul_one])
  rw [made_bv] at o1
  rw [made_iv, e1] at o2
  refine ⟨?_, o2.alloc _, (o1.alloc _).alloc _, by omega, by omega, by omega, by omega, by rw [List.length_replicate], by unfold G0; rw [List.length_replicate]⟩
  rw [← e2]; exact heap_alloc_new _ _
set_option maxRecDepth 100000 in
theorem fill_iv (m r : Nat) : (List.replicate m (-1 : Int) ++ List.replicate (r + 1) 0).set m (-1) = List.replicate (m + 1) (-1) ++ List.replicate r 0 := by
  rw [List.replicate_succ, List.set_append_right _ _ (by rw [List.length_replicate]; exact Nat.le_refl _), List.length_replicate, Nat.sub_self, List.set_cons_zero, List.replicate_succ', List.append_assoc]
  rfl
/-- what begin answers -/
def BegP (a : Option Addr) (len cap : Nat) (w : World) (e : Ending) (w' : World) : Prop := ∃ g gd gg, e = .returned (.pointer (some ⟨g, 0, none⟩)) ∧ Wk 141 w.heap.size w' g gd len gg len a len cap (D0 len) (G0 len) ∧ Below w.heap.size w w'
set_option maxHeartbeats 2000000 in
theorem begin_any (a : Option Addr) (len cap : Nat) (w : World) (hn : 1 ≤ len) (hl : len ≤ 200) :
    Calls Try.prog 77 #[.slice a len cap] w (BegP a len cap w) := by
  have hm1 := run_make_row' (P := Try.prog) 37 3 (.int .i64 0) 8 Try.underlying37 Try.infoI rfl .i64 .i64 len (by omega) (by omega)
  have hm2 := run_make_row' (P := Try.prog) 86 4 (.bool false) 1 Try.underlying86 Try.infoB rfl .i64 .i64 len (by omega) (by omega)
  go_enter Try.func77, Try.ntmps77
  go_upto_region 1 with fail
  go_cut [3] from 5 to 13 (fun s3 wx => ∃ g gd gg, s3 = .pointer (some ⟨g, 0, none⟩) ∧ Bx (Wk 141 w.heap.size wx g gd len gg len a len cap (List.replicate len 0) (G0 len)) ∧ Bx (Below w.heap.size w wx))
  case first =>
    go_region
    · go_wp2_with fail
      go_meet
      case rel => exact ⟨_, _, _, rfl, ⟨(wk_new1 w a len cap (by omega) _ rfl).below ((Below.refl _ _).drew)⟩, ⟨((((Below.refl _ _).alloc (Nat.le_refl _) _).alloc (by rw [World.size_alloc]; omega) _).alloc (by rw [World.size_alloc, World.size_alloc]; omega) _).drew⟩⟩
    · go_wp2_with fail
      go_meet
      case rel => exact ⟨_, _, _, rfl, ⟨(wk_new2 w a len cap (by omega) _ rfl).below ((Below.refl _ _).drew)⟩, ⟨((((Below.refl _ _).alloc (Nat.le_refl _) _).alloc (by rw [World.size_alloc]; omega) _).alloc (by rw [World.size_alloc, World.size_alloc]; omega) _).drew⟩⟩
  case rest =>
    obtain ⟨g, gd, gg, rfl, HW, HB⟩ := hcut
    clear hm1 hm2
    obtain ⟨_, c1, _⟩ := HW.out.cells
    have HW0 : Bx (Wk 141 w.heap.size wc g gd len gg len a len cap (List.replicate 0 (-1) ++ List.replicate (len - 0) 0) (G0 len)) := HW
    go_wp2_with fail
    clear c1 HW
    go_loopw [19] (fun i wr => ∃ m : Nat, m ≤ len ∧ i = .int .i64 m ∧ Bx (Wk 141 w.heap.size wr g gd len gg len a len cap (List.replicate m (-1) ++ List.replicate (len - m) 0) (G0 len)) ∧ Bx (Below w.heap.size w wr)) (fun i _ => len - (intOf i).toNat)
    case atStart => exact ⟨0, Nat.zero_le _, rfl, HW0, HB⟩
    case round =>
      clear HW0 HB
      obtain ⟨m, hml, rfl, HW, HB⟩ := hrel
      obtain ⟨_, c1, _⟩ := HW.out.cells
      by_cases hlt : m < len
      · have hkI : (m : Int) < (len : Int) := by omega
        obtain ⟨d0, d1⟩ := HW.out.dcell m hlt
        have HS := HW.out.setD m (-1)
        rw [show len - m = len - (m + 1) + 1 by omega, fill_iv] at HS
        have HS2 := Bx.mk HS
        have HB2 : Bx (Below w.heap.size w (wr.setCell ⟨gd, m, none⟩ (.int .i64 (-1)))) := ⟨HB.out.setCell (p := ⟨gd, m, none⟩) HW.out.ged _⟩
        generalize (List.replicate m (-1 : Int) ++ List.replicate (len - m) 0).getD m (-1) = d at d0
        clear HS HW HB
        go_wp2_with fail
        go_roundw
        case rel => exact ⟨m + 1, by omega, by go_num, HS2, HB2⟩
        case measure => simp [intOf]; omega
      · obtain rfl : m = len := by omega
        have hkI : ¬ (m : Int) < (m : Int) := by omega
        have h0I : (0 : Int) < (m : Int) := by omega
        obtain ⟨d0, d1⟩ := HW.out.dcell 0 (by omega)
        have HS := HW.out.setD 0 0
        rw [Nat.sub_self, List.replicate_zero, List.append_nil] at HS
        have HS2 : Bx (Wk 141 w.heap.size (wr.setCell ⟨gd, 0, none⟩ (.int .i64 0)) g gd m gg m a m cap (D0 m) (G0 m)) := ⟨HS⟩
        have HB2 : Bx (Below w.heap.size w (wr.setCell ⟨gd, 0, none⟩ (.int .i64 0))) := ⟨HB.out.setCell (p := ⟨gd, 0, none⟩) HW.out.ged _⟩
        generalize (List.replicate m (-1 : Int) ++ List.replicate (m - m) 0).getD 0 (-1) = d at d0
        clear HS HW HB
        go_wp2_with fail
        go_ret
        exact ⟨g, gd, gg, rfl, HS2.out, HB2.out⟩
end Go.Proofs.Ytbjeeefkbmdmfaa
