/- What Read of a disk answers. -/
import Derived.Test.YtipakjenggeflaaGreatDoorPkam
import Derived.Test.YtipakjenggeflaaGreatDoorPkad
import Derived.Laws.IdiomStrings
import Derived.Lib.Strings
namespace Go.Proofs.YtipakjenggeflaaGreatDoor
open Go.RowKit
set_option linter.unusedVariables false

set_option maxRecDepth 100000 in
theorem drow {w : World} {g base n : Nat} {l : List Int} (h : w.heap[g]? = some (.cells (bv l).toArray 5 (0, 0))) (hn : l.length = n) (hm : n ≤ maxLen) (hb : base ≤ g) : w.ownsRow base 5 1 (.slice (some ⟨g, 0, none⟩) n n) n (bv l) := by
  refine ⟨by rw [bv_length]; omega, .inr ⟨g, n, (bv l).toArray, rfl, hb, h, Nat.le_refl _, hm, by rw [List.size_toArray, bv_length]; omega, ?_⟩⟩
  rw [List.take_of_length_le (by simp [bv_length]; omega)]
set_option maxRecDepth 100000 in
theorem dnil (w : World) (a : Option Addr) (l c : Nat) : (binOp .eql 34 (.slice a l c) (.slice none 0 0)).run Tryz.prog w = .ok (.bool a.isNone) w := by
  simp only [binOp]
  simp [run_equal_slice_nil w _ _ a l c Tryz.underlying34]
set_option maxRecDepth 100000 in
set_option maxHeartbeats 400000 in
theorem sclone_any (ad : Addr) (len cap : Nat) (l : List Int) (w : World) (h : Bts w (some ad) len cap l) (hs : len ≤ 1099511627776) :
    Calls Tryz.prog 72 #[.slice (some ad) len cap] w fun e w' => ∃ v, e = .returned v ∧ w'.ownsRow w.heap.size 5 1 v len (bv l) ∧ Below w.heap.size w w' := by
  have hb0 : Below w.heap.size w (w.alloc (.cells #[] 5)) := (Below.refl _ _).alloc (Nat.le_refl _) _
  have h0 := h.below hb0
  have ho0 : (w.alloc (.cells #[] 5)).ownsRow w.heap.size 5 1 (.slice (some ⟨w.heap.size, 0, none⟩) 0 0) 0 (bv []) := drow (l := []) (heap_alloc_new _ _) rfl (by decide) (Nat.le_refl _)
  have hsz := hb0.size
  have hnil := dnil w (some ad) len cap
  go_enter Tryz.func72, Tryz.ntmps72
  go_wp2_with (at_builtin; refine wpList_append_bts rfl (.tmp 5) (.tmp 6) rfl w.heap.size 0 _ [] rfl ho0 (some ad) len cap l rfl h0 (by omega) hsz ?_; intro v1 w1 ho1 hb1 _)
  rw [Nat.zero_add, List.nil_append] at ho1
  go_ret
  exact ⟨_, rfl, ho1, hb0.trans hb1⟩
set_option maxRecDepth 100000 in
/-- d[:] of a sector -/
theorem sec_slice (O o : Nat) (w : World) : (Instr.sliceAt 118 (.pointer (some ⟨O, o, none⟩)) none none none).run Tryz.prog w = .ok (.slice (some ⟨O, o, none⟩) 64 64) w := by
  have hlen : Tryz.prog.arrayLen 118 = 64 := by kernel_rfl
  have ht : Tryz.prog.underlying 118 = some (.array (Tryz.prog.arrayLen 118) (Tryz.prog.elem 118)) := by kernel_rfl
  have hsz : (sizeOf (Tryz.prog.elem 118)).run Tryz.prog w = .ok 1 w := by kernel_rfl
  rw [run_sliceAt_array_all w 118 ⟨O, o, none⟩ ht, hsz, hlen]
  simp only [Result.andThen_ok, slicedAt]
  rw [if_neg (by decide), Addr.add_lit]; rfl
set_option maxRecDepth 100000 in
theorem range_btsD {w : World} {b o : Nat} {l : List Int} (h : w.rangeAt b o (bv l)) (hl : SxD l) : Bts w (some ⟨b, o, none⟩) 64 64 l := by
  have hc : ∀ i, i < 64 → w.cell? ⟨b, o + i, none⟩ = some (.int .u8 (l.getD i 0)) := fun i hi => h i _ (by
    rw [bv_get, List.getElem?_eq_getElem (by rw [hl.1]; exact hi), List.getD_eq_getElem?_getD, List.getElem?_eq_getElem (by rw [hl.1]; exact hi)]; rfl)
  exact ⟨hl.1, hl.2, Nat.le_refl _, by unfold maxLen; omega, (fun hh => by cases hh), fun _ => ⟨b, o, rfl, World.block_lt_of_cell? w _ (hc 0 (by omega)), hc⟩⟩
set_option maxRecDepth 100000 in
set_option maxHeartbeats 400000 in
theorem read_any (g : Nat) (own : Nat → Prop) (s : DS) (x : Int) (w : World) (h : Dsk w g own s) :
    Calls Tryz.prog 223 #[.pointer (some ⟨g, 0, none⟩), .int .i64 x] w fun e w' => ∃ v, e = .returned (.tuple #[v, .int .i64 (s.rdE x)]) ∧ w'.ownsRow w.heap.size 5 1 v (s.rdL x).length (bv (s.rdL x)) ∧ Below w.heap.size w w' := by
  have H : Bx (Dsk w g own s) := ⟨h⟩
  have hn2 := h.ok.n2
  obtain ⟨gf, gn, vo, hR⟩ := h
  have c1 := hR.c1
  by_cases h1 : s.off = true
  · have HE : Bx (s.rdE x = 14 ∧ s.rdL x = [] ∧ s.rdy = 14) := ⟨by simp [DS.rdE, DS.rdL, DS.rdy, h1]⟩
    clear hR h1 c1
    go_enter Tryz.func223, Tryz.ntmps223
    go_wp2_with fail
    refine (ready_any g own s _ H.out).mono ?_
    rintro e w' ⟨rfl, rfl⟩
    rw [HE.out.2.2]
    go_wp2
    go_ret2
    exact ⟨_, by rw [HE.out.1]; rfl, by rw [HE.out.2.1]; exact World.ownsRow_nil _ _ _ _, Below.refl _ _⟩
  · have h1' : s.off = false := by simpa using h1
    by_cases h2 : (decide (0 ≤ x) && decide (x < (s.F.length : Int))) = true
    · have h3 : 0 ≤ x ∧ x < s.F.length := by simpa using h2
      have HE : Bx (s.rdE x = 0 ∧ s.rdL x = s.now.getD x.toNat [] ∧ s.rdy = 0) := ⟨by simp [DS.rdE, DS.rdL, DS.rdy, h1', h3.1, h3.2]⟩
      obtain ⟨k, rfl⟩ : ∃ k : Nat, x = k := ⟨x.toNat, by omega⟩
      have hkn : k < s.F.length := by omega
      have hrg := hR.rangeN k hkn
      have hsx := hR.ns.getD k (by rw [hR.nl]; exact hkn)
      have hbt := range_btsD hrg hsx
      rw [show ((k : Int)).toNat = k from rfl] at HE
      have HEL : Bx ((s.rdL k).length = 64) := ⟨by rw [HE.out.2.1]; exact hsx.1⟩
      have hsl := sec_slice gn (k * 64)
      have HH : Bx ((decide (0 ≤ (k : Int)) && decide ((k : Int) < (s.F.length : Int))) = true) := ⟨h2⟩
      have hk2 : (k : Int) < (s.F.length : Int) := by omega
      clear hR h1 h1' h2 h3 hrg hsx
      go_enter Tryz.func223, Tryz.ntmps223
      go_wp2_with fail
      refine (ready_any g own s _ H.out).mono ?_
      rintro e w' ⟨rfl, rfl⟩
      rw [HE.out.2.2]
      go_wp2_with fail
      refine (has_anyD g own s k _ H.out).mono ?_
      rintro e w' ⟨rfl, rfl⟩
      rw [HH.out]
      go_wp2_with fail
      refine (sclone_any _ 64 64 _ _ hbt (by decide)).mono ?_
      rintro e w1 ⟨v, rfl, hown, hb1⟩
      clear hbt
      go_wp2
      go_ret2
      exact ⟨_, by rw [HE.out.1]; rfl, by rw [HEL.out, HE.out.2.1]; exact hown, hb1⟩
    · have h2' : (decide (0 ≤ x) && decide (x < (s.F.length : Int))) = false := by simpa using h2
      have HE : Bx (s.rdE x = 2 ∧ s.rdL x = [] ∧ s.rdy = 0) := ⟨by simp only [DS.rdE, DS.rdL, DS.rdy, h1', h2']; simp⟩
      have HH : Bx _ := ⟨h2'⟩
      clear hR h1 h1' h2 h2' c1
      go_enter Tryz.func223, Tryz.ntmps223
      go_wp2_with fail
      refine (ready_any g own s _ H.out).mono ?_
      rintro e w' ⟨rfl, rfl⟩
      rw [HE.out.2.2]
      go_wp2_with fail
      refine (has_anyD g own s x _ H.out).mono ?_
      rintro e w' ⟨rfl, rfl⟩
      rw [HH.out]
      go_wp2
      go_ret2
      exact ⟨_, by rw [HE.out.1]; rfl, by rw [HE.out.2.1]; exact World.ownsRow_nil _ _ _ _, Below.refl _ _⟩
end Go.Proofs.YtipakjenggeflaaGreatDoor
