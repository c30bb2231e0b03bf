/- Sums as bytes: the document's Four, the program's sumBytes and isSummed; Size; bytes.Clone; that anything is summed at all. The program's sumBytes and isSummed; Size; bytes.Clone; that anything is summed at all. What frame.Put answers, and the document's Put; bytes.Clone; that anything is summed at all. What frame.Read answers, and the document's Read. A log on a disk, as the mathematics has it: frames in sectors, what is read of them, what is written. No walk. What Open and Append write, and what is there behind a crash, as the mathematics has it. No walk. -/
import Derived.Test.YtipakjenggeflaaGreatDoorFSum
import Derived.Test.YtipakjenggeflaaGreatDoorPkai
import Derived.Test.YtipakjenggeflaaGreatDoorPkaa
import Derived.Test.YtipakjenggeflaaGreatDoorPkad
import Derived.Test.YtipakjenggeflaaGreatDoorPkaf
import Derived.Laws.Cover3
import Derived.Lib.SlBytesConst
namespace Go.Proofs.YtipakjenggeflaaGreatDoor
open Go.RowKit
set_option linter.unusedVariables false

set_option maxRecDepth 100000 in
theorem crcN_lt (l : List Int) : crcN l < 4294967296 := (crcL l).isLt
set_option maxRecDepth 100000 in
theorem put_four (n : Nat) : putL (n : Int) 4 = [sh n 3 % 256, sh n 2 % 256, sh n 1 % 256, sh n 0 % 256] := rfl
set_option maxRecDepth 100000 in
theorem rev_four (n : Nat) : [sh (n : Int) 0 % 256, sh (n : Int) 1 % 256, sh (n : Int) 2 % 256, sh (n : Int) 3 % 256] = four n := by
  have e1 : sh (n : Int) 1 = (n : Int) / 256 := by rw [sh_succ, sh_zero]
  have e2 : sh (n : Int) 2 = (n : Int) / 65536 := by rw [sh_succ, e1]; omega
  have e3 : sh (n : Int) 3 = (n : Int) / 16777216 := by rw [sh_succ, e2]; omega
  rw [sh_zero, e1, e2, e3]
  unfold four
  congr 1
set_option maxRecDepth 100000 in
set_option maxHeartbeats 1000000 in
theorem rev_any (g cap base : Nat) (a b c d : Int) (w : World) (hown : w.ownsRow base 5 1 (.slice (some ⟨g, 0, none⟩) 4 cap) 4 (bv [a, b, c, d])) (hg : base ≤ g) :
    Calls Tryz.prog 338 #[.slice (some ⟨g, 0, none⟩) 4 cap] w fun e w' => e = .returned (.tuple #[]) ∧ w'.ownsRow base 5 1 (.slice (some ⟨g, 0, none⟩) 4 cap) 4 (bv [d, c, b, a]) ∧ Below base w w' := by
  go_enter Tryz.func338, Tryz.ntmps338
  go_wp2
  go_loopw [2, 3] (fun i j wr => ((i = .int .i64 0 ∧ j = .int .i64 3 ∧ wr.ownsRow base 5 1 (.slice (some ⟨g, 0, none⟩) 4 cap) 4 (bv [a, b, c, d])) ∨ (i = .int .i64 1 ∧ j = .int .i64 2 ∧ wr.ownsRow base 5 1 (.slice (some ⟨g, 0, none⟩) 4 cap) 4 (bv [d, b, c, a])) ∨ (i = .int .i64 2 ∧ j = .int .i64 1 ∧ wr.ownsRow base 5 1 (.slice (some ⟨g, 0, none⟩) 4 cap) 4 (bv [d, c, b, a]))) ∧ Below base w wr) (fun i _ _ => 2 - (intOf i).toNat)
  case atStart => exact ⟨.inl ⟨rfl, rfl, hown⟩, Below.refl _ _⟩
  case round =>
    clear hown
    obtain ⟨⟨rfl, rfl, ho⟩ | ⟨rfl, rfl, ho⟩ | ⟨rfl, rfl, ho⟩, hb⟩ := hrel
    · have c0 : wr.cell? ⟨g, 0, none⟩ = some (.int .u8 a) := ho.cellAt 0 (by decide)
      have c3 : wr.cell? ⟨g, 3, none⟩ = some (.int .u8 d) := ho.cellAt 3 (by decide)
      have f0 := ho.frozenAt 0
      have f3 := ho.frozenAt 3
      have o0 := owns_drewN ho 1
      have o1 := o0.stored 0 (.int .u8 d)
      have o2 := o1.1.stored 3 (.int .u8 a)
      have o3 := o2.1
      have hb2 := ((below_drewN hb 1).setCell (p := ⟨g, 0, none⟩) hg (.int .u8 d)).setCell (p := ⟨g, 3, none⟩) hg (.int .u8 a)
      clear ho o0 o1 o2 hb
      go_wp2_with fail
      go_region
      go_wp2
      go_roundw
      case rel => exact ⟨.inr (.inl ⟨rfl, rfl, o3⟩), hb2⟩
      case measure => simp [intOf]
    · have c0 : wr.cell? ⟨g, 1, none⟩ = some (.int .u8 b) := ho.cellAt 1 (by decide)
      have c3 : wr.cell? ⟨g, 2, none⟩ = some (.int .u8 c) := ho.cellAt 2 (by decide)
      have f0 := ho.frozenAt 1
      have f3 := ho.frozenAt 2
      have o0 := owns_drewN ho 1
      have o1 := o0.stored 1 (.int .u8 c)
      have o2 := o1.1.stored 2 (.int .u8 b)
      have o3 := o2.1
      have hb2 := ((below_drewN hb 1).setCell (p := ⟨g, 1, none⟩) hg (.int .u8 c)).setCell (p := ⟨g, 2, none⟩) hg (.int .u8 b)
      clear ho o0 o1 o2 hb
      go_wp2_with fail
      go_region
      go_wp2
      go_roundw
      case rel => exact ⟨.inr (.inr ⟨rfl, rfl, o3⟩), hb2⟩
      case measure => simp [intOf]
    · go_wp2
      go_end0
      exact ⟨rfl, ho, hb⟩
end Go.Proofs.YtipakjenggeflaaGreatDoor
namespace Go.Proofs.YtipakjenggeflaaGreatDoor
open Go.RowKit
set_option linter.unusedVariables false

set_option maxRecDepth 100000 in
set_option maxHeartbeats 400000 in
theorem sumb_any (a : Option Addr) (len cap : Nat) (l : List Int) (w : World) (h : Bts w a len cap l) :
    Calls Tryz.prog 319 #[.slice a len cap] w fun e w' => ∃ v, e = .returned v ∧ w'.ownsRow w.heap.size 5 1 v 4 (bv (four (crcN l))) ∧ Below w.heap.size w w' := by
  have hn := crcN_lt l
  go_enter Tryz.func319, Tryz.ntmps319
  go_wp2_with fail
  refine (crc_any a len cap l _ h).mono ?_
  rintro e w' ⟨rfl, rfl⟩
  generalize hN : crcN l = n at hn ⊢
  have HN : Bx (crcN l = n) := ⟨hN⟩
  clear hN
  clear h
  have hi : (n : Int) % 18446744073709551616 = (n : Int) := by omega
  have hp := put_some (n : Int) 4 w (by decide) (by decide) (by omega) (by omega)
  have HP : Bx (Calls Tryz.prog 196 #[.int .u64 (n : Int), .int .i64 4] w fun e w' => ∃ v, e = .returned v ∧ w'.ownsRow w.heap.size 5 1 v 4 (bv (putL (n : Int) 4)) ∧ Below w.heap.size w w') := ⟨hp⟩
  clear hp
  go_wp2_with fail
  refine HP.out.mono ?_
  rintro e w1 ⟨v, rfl, hown, hb1⟩
  obtain ⟨g, cap1, rfl, hg, _⟩ := owns_form hown (by decide)
  rw [put_four] at hown
  clear HP
  go_wp2_with fail
  refine (rev_any g cap1 _ _ _ _ _ _ hown hg).mono ?_
  rintro e w2 ⟨rfl, hown2, hb2⟩
  rw [rev_four] at hown2
  clear hown
  go_wp2
  go_ret
  exact ⟨_, rfl, by rw [HN.out]; exact hown2, hb1.trans hb2⟩
set_option maxRecDepth 100000 in
set_option maxHeartbeats 400000 in
theorem summed_any (a : Option Addr) (len cap n : Nat) (l : List Int) (w : World) (h : Bts w a len cap l) (hn : n + 4 ≤ len) :
    Calls Tryz.prog 280 #[.slice a len cap, .int .i64 n] w fun e w' => e = .returned (.bool (decide ((l.drop n).take 4 = four (crcN (l.take n))))) ∧ Below w.heap.size w w' := by
  have hlc := h.le_cap
  have hcm := h.cap_le
  have hcm' := hcm
  unfold maxLen at hcm'
  obtain ⟨b, off, rfl, _, _⟩ := h.spot (by omega)
  have hp := h.part n 4 (cap - n) hn (by omega) (by omega)
  have hq := h.cut n (by omega)
  have h0 : (0 : Int) ≤ (n : Int) := by omega
  have h1 : (n : Int) ≤ (n : Int) + 4 := by omega
  have h2 : (n : Int) + 4 ≤ (cap : Int) := by omega
  have h3 : (n : Int) ≤ (cap : Int) := by omega
  have HS : Bx (∀ w', Below w.heap.size w w' → Calls Tryz.prog 319 #[.slice (some ⟨b, off, none⟩) n cap] w' fun e w'' => ∃ v, e = .returned v ∧ w''.ownsRow w'.heap.size 5 1 v 4 (bv (four (crcN (l.take n)))) ∧ Below w'.heap.size w' w'') := ⟨fun w' hw => sumb_any _ _ _ _ _ (hq.below hw)⟩
  have HE : Bx (∀ w' a' c', Below w.heap.size w w' → Bts w' a' 4 c' (four (crcN (l.take n))) → Calls Tryz.prog 318 #[.slice (some ⟨b, off + n, none⟩) 4 (cap - n), .slice a' 4 c'] w' fun e w'' => e = .returned (.bool (decide ((l.drop n).take 4 = four (crcN (l.take n))))) ∧ w' = w'') := ⟨fun w' a' c' hw hb => beq_any _ _ _ _ _ _ _ _ _ (hp.below hw) hb⟩
  have HB : Bx (Byt (four (crcN (l.take n)))) := ⟨four_byt _⟩
  have hd : IntKind.i64.wrap ((n : Int) + 4) = (n : Int) + 4 := by rw [IntWalk.i64_in _ (by omega)]
  generalize decide ((l.drop n).take 4 = four (crcN (l.take n))) = r at HE ⊢
  generalize four (crcN (l.take n)) = f at HS HE HB
  have hz : ((n : Int) + 4).toNat - n = 4 := by omega
  have hl0 : Below w.heap.size w w.drew := (Below.refl _ _).drew
  clear hp hq h
  go_enter Tryz.func280, Tryz.ntmps280
  go_wp2_with fail
  go_region_held3 (fun w' => Below w.heap.size w w') (first | (exact hl0) | (exact bstep (by assumption) hb6) | (assumption)) (first
    | (go_at_call 319; refine (HS.out _ (by assumption)).mono ?_; rintro e6 w6 ⟨v6, rfl, hown6, hb6⟩; obtain ⟨a6, c6, rfl, hm6⟩ := Bts.of_owns hown6 HB.out)
    | (go_at_call 318; refine (HE.out _ _ _ (bstep hl0 hb6) hm6).mono ?_; rintro e7 w7 ⟨rfl, rfl⟩))
  rename_i hHeld
  clear HS HE hown6 hm6
  go_wp2
  go_ret
  exact ⟨rfl, hHeld⟩
set_option maxRecDepth 100000 in
theorem size_any (n : Int) (w : World) (h0 : n ≤ 9223372036854775787) :
    Calls Tryz.prog 131 #[.int .i64 n] w fun e w' => e = .returned (.int .i64 (20 + max n 0)) ∧ w = w' := by
  by_cases h : n < 0
  · have HM : Hid (20 + max n 0 = 20) := by show _ = _; omega
    go_enter Tryz.func131, Tryz.ntmps131
    go_wp2
    go_ret
    exact ⟨ret_int HM.out.symm, rfl⟩
  · have HM : Hid (20 + max n 0 = n + 20) := by show _ = _; omega
    have h1 : 0 ≤ n := by omega
    go_enter Tryz.func131, Tryz.ntmps131
    go_wp2
    go_ret
    exact ⟨ret_int (by rw [HM.out]; omega), rfl⟩
end Go.Proofs.YtipakjenggeflaaGreatDoor
namespace Go.Proofs.YtipakjenggeflaaGreatDoor
open Go.RowKit
set_option linter.unusedVariables false

/-- why there is no frame (0: there is) -/
def ptE (seq : Int) (n : Nat) : Int := if seq = 0 then 2 else if 16384 < n then 5 else 0
/-- the frame, or none -/
def ptL (seq : Int) (b : List Int) : List Int := if ptE seq b.length = 0 then frmL seq b else []
set_option maxRecDepth 100000 in
theorem ptL_ok {seq : Int} {b : List Int} (h : ptE seq b.length = 0) : ptL seq b = frmL seq b := by unfold ptL; rw [if_pos h]
set_option maxRecDepth 100000 in
theorem ptL_no {seq : Int} {b : List Int} (h : ptE seq b.length ≠ 0) : ptL seq b = [] := by unfold ptL; rw [if_neg h]
set_option maxRecDepth 100000 in
theorem ptE_arg {seq : Int} (h : seq = 0) (n : Nat) : ptE seq n = 2 := by unfold ptE; rw [if_pos h]
set_option maxRecDepth 100000 in
theorem ptE_big {seq : Int} {n : Nat} (h : seq ≠ 0) (hn : 16384 < n) : ptE seq n = 5 := by unfold ptE; rw [if_neg h, if_pos hn]
set_option maxRecDepth 100000 in
theorem ptE_ok {seq : Int} {n : Nat} (h : seq ≠ 0) (hn : ¬ 16384 < n) : ptE seq n = 0 := by unfold ptE; rw [if_neg h, if_neg hn]
set_option maxRecDepth 100000 in
theorem concat4 (b : Nat) (a0 a1 a2 a3 : Option Addr) (n0 n1 n2 n3 c0 c1 c2 c3 : Nat) (l0 l1 l2 l3 : List Int) (w : World) (h0 : w.cell? ⟨b, 0, none⟩ = some (.slice a0 n0 c0)) (h1 : w.cell? ⟨b, 1, none⟩ = some (.slice a1 n1 c1)) (h2 : w.cell? ⟨b, 2, none⟩ = some (.slice a2 n2 c2)) (h3 : w.cell? ⟨b, 3, none⟩ = some (.slice a3 n3 c3)) (hblt : b < w.heap.size)
    (B0 : Bts w a0 n0 c0 l0) (B1 : Bts w a1 n1 c1 l1) (B2 : Bts w a2 n2 c2 l2) (B3 : Bts w a3 n3 c3 l3) (hbd : n0 + n1 + n2 + n3 ≤ 1099511627776) :
    Calls Tryz.prog 90 #[.slice (some ⟨b, 0, none⟩) 4 4] w fun e w' => ∃ v, e = .returned v ∧ w'.ownsRow w.heap.size 5 1 v (n0 + n1 + n2 + n3) (bv (l0 ++ (l1 ++ (l2 ++ l3)))) ∧ Below w.heap.size w w' := by
  have hc : catL (fun i => if i = 0 then l0 else if i = 1 then l1 else if i = 2 then l2 else l3) 4 = l0 ++ (l1 ++ (l2 ++ l3)) := by simp [catL]
  have hl : (catL (fun i => if i = 0 then l0 else if i = 1 then l1 else if i = 2 then l2 else l3) 4).length = n0 + n1 + n2 + n3 := by rw [hc, List.length_append, List.length_append, List.length_append, B0.len_eq, B1.len_eq, B2.len_eq, B3.len_eq]; omega
  refine (concat_any 4 b (fun i => if i = 0 then a0 else if i = 1 then a1 else if i = 2 then a2 else a3) (fun i => if i = 0 then n0 else if i = 1 then n1 else if i = 2 then n2 else n3) (fun i => if i = 0 then c0 else if i = 1 then c1 else if i = 2 then c2 else c3) (fun i => if i = 0 then l0 else if i = 1 then l1 else if i = 2 then l2 else l3) w (fun i hi => ?_) hblt (fun i hi => ?_) (by rw [hl]; exact hbd) (by decide)).mono ?_
  · match i, hi with
    | 0, _ => exact h0
    | 1, _ => exact h1
    | 2, _ => exact h2
    | 3, _ => exact h3
  · match i, hi with
    | 0, _ => exact B0
    | 1, _ => exact B1
    | 2, _ => exact B2
    | 3, _ => exact B3
  · rintro e w' ⟨v, rfl, ho, hb⟩
    rw [hl, hc] at ho
    exact ⟨v, rfl, ho, hb⟩
set_option maxRecDepth 100000 in
set_option maxHeartbeats 1000000 in
theorem put8_any (seq : Int) (a : Option Addr) (len cap : Nat) (l : List Int) (w : World) (h0 : 0 ≤ seq) (h64 : seq ≤ 18446744073709551615) (h : Bts w a len cap l) :
    Calls Tryz.prog 287 #[.int .u64 seq, .slice a len cap] w fun e w' => ∃ v, e = .returned (.tuple #[v, .int .i64 (ptE seq l.length)]) ∧ w'.ownsRow w.heap.size 5 1 v (ptL seq l).length (bv (ptL seq l)) ∧ Below w.heap.size w w' := by
  have hl := h.len_eq
  have hmx := Nat.le_trans h.le_cap h.cap_le
  unfold maxLen at hmx
  by_cases hz : seq = 0
  · have HE := ptE_arg hz l.length
    have HL : Hid (ptL seq l = []) := ptL_no (by rw [HE]; decide)
    have HE' : Bx (ptE seq l.length = 2) := ⟨HE⟩
    clear HE hl
    go_enter Tryz.func287, Tryz.ntmps287
    go_wp2
    go_ret2
    exact ⟨_, by rw [HE'.out]; rfl, owns_empty _ _ _ HL.out, Below.refl _ _⟩
  · have hzb : (seq == 0) = false := by simpa using hz
    by_cases hbig : 16384 < len
    · have HE := ptE_big hz (n := l.length) (by omega)
      have HL : Hid (ptL seq l = []) := ptL_no (by rw [HE]; decide)
      have HE' : Bx (ptE seq l.length = 5) := ⟨HE⟩
      have hbig' : (16384 : Int) < (len : Int) := by omega
      clear HE hl
      go_enter Tryz.func287, Tryz.ntmps287
      go_wp2
      go_ret2
      exact ⟨_, by rw [HE'.out]; rfl, owns_empty _ _ _ HL.out, Below.refl _ _⟩
    · have HE := ptE_ok hz (n := l.length) (by omega)
      have HL : Bx (ptL seq l = headLF len seq ++ (four (crcN (headLF len seq)) ++ (l ++ four (crcN l)))) := ⟨by rw [ptL_ok HE, ← hl]; rfl⟩
      have HE' : Bx (ptE seq l.length = 0) := ⟨HE⟩
      have HLn : Bx ((ptL seq l).length = 12 + 4 + len + 4) := ⟨by rw [ptL_ok HE, frmL_len, hl]; omega⟩
      have hbig' : ¬ (16384 : Int) < (len : Int) := by omega
      have hcv : (len : Int) % 18446744073709551616 = (len : Int) := by omega
      have hhl := headL_bytF len seq
      clear HE hl
      go_enter Tryz.func287, Tryz.ntmps287
      go_wp2_with fail
      refine (put_some (len : Int) 4 _ (by decide) (by decide) (by omega) (by omega)).mono ?_
      rintro e w1 ⟨v1, rfl, hown1, hb1⟩
      go_wp2_with fail
      refine (put_some seq 8 _ (by decide) (by decide) h0 h64).mono ?_
      rintro e w2 ⟨v2, rfl, hown2, hb2⟩
      have hown1b := owns_below hown1 hb2
      obtain ⟨a2, c2, rfl, hm2⟩ := Bts.of_owns hown2 (putL_byt _ _)
      have hb12 := bstep hb1 hb2
      have hsz := hb12.size
      clear hown1 hown2 hb1 hb2 hcv
      go_wp2_with (at_builtin; refine wpList_append_bts rfl (.tmp 15) (.tmp 17) rfl w.heap.size 4 _ (putL (len : Int) 4) rfl hown1b a2 8 c2 (putL seq 8) rfl hm2 (by decide) hsz ?_; intro v3 w3 hown3 hb3 _; obtain ⟨a3, c3, rfl, hm3⟩ := Bts.of_owns (l := headLF len seq) hown3 hhl; have hb3' := hb12.trans hb3; clear hb12 hb3 hown3 hown1b hm2)
      refine (sumb_any a3 12 c3 (headLF len seq) _ hm3).mono ?_
      rintro e w4 ⟨v4, rfl, hown4, hb4⟩
      obtain ⟨a4, c4, rfl, hm4⟩ := Bts.of_owns hown4 (four_byt _)
      have hm3b := hm3.below hb4
      have hb4' := bstep hb3' hb4
      have h4 := h.below hb4'
      clear hown4 hm3 hb3' hb4
      go_wp2_with fail
      refine (sumb_any a len cap l _ h4).mono ?_
      rintro e w5 ⟨v5, rfl, hown5, hb5⟩
      obtain ⟨a5, c5, rfl, hm5⟩ := Bts.of_owns hown5 (four_byt _)
      have hm3c := hm3b.below hb5
      have hm4c := hm4.below hb5
      have h5 := h4.below hb5
      have hb5' := bstep hb4' hb5
      clear hown5 hm3b hm4 h4 hb4' hb5
      go_wp2_with fail
      have hb6 : Below w5.heap.size w5 (w5.alloc (.cells #[.slice a3 12 c3, .slice a4 4 c4, .slice a len cap, .slice a5 4 c5] 34)) := (Below.refl _ _).alloc (Nat.le_refl _) _
      have hrow := heap_alloc_new w5 (.cells #[.slice a3 12 c3, .slice a4 4 c4, .slice a len cap, .slice a5 4 c5] 34)
      generalize w5.alloc (.cells #[.slice a3 12 c3, .slice a4 4 c4, .slice a len cap, .slice a5 4 c5] 34) = w6 at hb6 hrow ⊢
      refine (concat4 w5.heap.size a3 a4 a a5 12 4 len 4 c3 c4 cap c5 _ _ _ _ w6 (cell_of_row _ _ 0 _ _ (0, 0) hrow) (cell_of_row _ _ 1 _ _ (0, 0) hrow) (cell_of_row _ _ 2 _ _ (0, 0) hrow) (cell_of_row _ _ 3 _ _ (0, 0) hrow) (Array.getElem?_eq_some_iff.1 hrow).1 (hm3c.below hb6) (hm4c.below hb6) (h5.below hb6) (hm5.below hb6) (by omega)).mono ?_
      rintro e w7 ⟨v7, rfl, hown7, hb7⟩
      have hsz6 := (bstep hb5' hb6).size
      have hown8 := owns_base hown7 hsz6
      have hb8 := bstep (bstep hb5' hb6) hb7
      clear hown7 hb7 hm3c hm4c h5 hm5 hb5' hb6 hrow
      go_wp2
      go_ret2
      exact ⟨v7, by rw [HE'.out]; rfl, by rw [HLn.out, HL.out]; exact hown8, hb8⟩
end Go.Proofs.YtipakjenggeflaaGreatDoor
namespace Go.Proofs.YtipakjenggeflaaGreatDoor
open Go.RowKit
set_option linter.unusedVariables false

set_option maxRecDepth 100000 in
theorem rd_no {l : List Int} (h : rdE l ≠ 0) : rdS l = 0 ∧ rdT l = [] ∧ rdNF l = 0 := by
  unfold rdS rdT rdNF; rw [if_neg h, if_neg h, if_neg h]; exact ⟨rfl, rfl, rfl⟩
set_option maxRecDepth 100000 in
theorem rd_short {l : List Int} (h : l.length < 16) : rdE l = 3 := by unfold rdE; rw [if_pos h]
set_option maxRecDepth 100000 in
theorem rd_sum {l : List Int} (h : ¬ l.length < 16) (h2 : (l.drop 12).take 4 ≠ four (crcN (l.take 12))) : rdE l = 13 := by unfold rdE; rw [if_neg h, if_pos h2]
set_option maxRecDepth 100000 in
theorem rd_form {l : List Int} (h : ¬ l.length < 16) (h2 : (l.drop 12).take 4 = four (crcN (l.take 12))) (h3 : getV ((l.drop 4).take 8) = 0) : rdE l = 4 := by unfold rdE; rw [if_neg h, if_neg (fun k => k h2), if_pos h3]
set_option maxRecDepth 100000 in
theorem rd_big {l : List Int} (h : ¬ l.length < 16) (h2 : (l.drop 12).take 4 = four (crcN (l.take 12))) (h3 : getV ((l.drop 4).take 8) ≠ 0) (h4 : 16384 < getV (l.take 4)) : rdE l = 5 := by unfold rdE; rw [if_neg h, if_neg (fun k => k h2), if_neg h3, if_pos h4]
set_option maxRecDepth 100000 in
theorem rd_less {l : List Int} (h : ¬ l.length < 16) (h2 : (l.drop 12).take 4 = four (crcN (l.take 12))) (h3 : getV ((l.drop 4).take 8) ≠ 0) (h4 : ¬ 16384 < getV (l.take 4)) (h5 : l.length < 20 + rdCF l) : rdE l = 3 := by unfold rdE; rw [if_neg h, if_neg (fun k => k h2), if_neg h3, if_neg h4, if_pos h5]
set_option maxRecDepth 100000 in
theorem rd_text {l : List Int} (h : ¬ l.length < 16) (h2 : (l.drop 12).take 4 = four (crcN (l.take 12))) (h3 : getV ((l.drop 4).take 8) ≠ 0) (h4 : ¬ 16384 < getV (l.take 4)) (h5 : ¬ l.length < 20 + rdCF l) (h6 : (l.drop (16 + rdCF l)).take 4 ≠ four (crcN ((l.drop 16).take (rdCF l)))) : rdE l = 13 := by unfold rdE; rw [if_neg h, if_neg (fun k => k h2), if_neg h3, if_neg h4, if_neg h5, if_pos h6]
/-- what reading answers -/
def RdP (l : List Int) (w : World) (e : Ending) (w' : World) : Prop := ∃ v, e = .returned (.tuple #[.int .u64 (rdS l), v, .int .i64 (rdNF l : Int), .int .i64 (rdE l)]) ∧ w'.ownsRow w.heap.size 5 1 v (rdT l).length (bv (rdT l)) ∧ Below w.heap.size w w'
set_option maxRecDepth 100000 in
theorem RdP.no {l : List Int} {w w' : World} {E : Int} (h : rdE l = E) (hE : E ≠ 0) (hb : Below w.heap.size w w') : RdP l w (.returned (.tuple #[.int .u64 0, .slice none 0 0, .int .i64 0, .int .i64 E])) w' := by
  obtain ⟨h1, h2, h3⟩ := rd_no (l := l) (by rw [h]; exact hE)
  exact ⟨_, by rw [h1, h3, h]; rfl, by rw [h2]; exact World.ownsRow_nil _ _ _ _, hb⟩
set_option maxRecDepth 100000 in
theorem RdP.yes {l : List Int} {w w' : World} {v : Value} {S Z : Int} {n : Nat} (h : rdE l = 0) (hS : getV ((l.drop 4).take 8) = S) (hn : rdCF l = n) (hZ : Z = 20 + (n : Int)) (ho : w'.ownsRow w.heap.size 5 1 v n (bv ((l.drop 16).take n))) (hb : Below w.heap.size w w') : RdP l w (.returned (.tuple #[.int .u64 S, v, .int .i64 Z, .int .i64 0])) w' := by
  obtain ⟨h1, h2, h3, h4, h5, h6⟩ := (rdE_ok l).1 h
  have e1 : rdS l = S := by unfold rdS; rw [if_pos h, hS]
  have e2 : rdT l = (l.drop 16).take n := by unfold rdT; rw [if_pos h, hn]
  have e3 : rdNF l = 20 + n := by unfold rdNF; rw [if_pos h, hn]
  have e4 : (rdT l).length = n := by rw [e2, List.length_take, List.length_drop]; omega
  exact ⟨v, by rw [e1, e3, h, hZ]; rfl, by rw [e4, e2]; exact ho, hb⟩
set_option maxRecDepth 100000 in
set_option maxHeartbeats 1000000 in
theorem read8_any (a : Option Addr) (len cap : Nat) (l : List Int) (w : World) (h : Bts w a len cap l) :
    Calls Tryz.prog 225 #[.slice a len cap] w (RdP l w) := by
  have hl := h.len_eq
  have hlc := h.le_cap
  have hcm := h.cap_le
  have hcm' := hcm
  unfold maxLen at hcm'
  by_cases h16 : len < 16
  · have HE : Bx (rdE l = 3) := ⟨rd_short (by omega)⟩
    have h16' : (len : Int) < 16 := by omega
    clear hl
    go_enter Tryz.func225, Tryz.ntmps225
    go_wp2
    exact bodyPost_ret (v := .tuple #[.int .u64 0, .slice none 0 0, .int .i64 0, .int .i64 3]) (by simp [results, Tryz.results225, go_sem]) rfl (RdP.no HE.out (by decide) (Below.refl _ _))
  · have h16' : ¬ (len : Int) < 16 := by omega
    obtain ⟨b, off, rfl, _, _⟩ := h.spot (by omega)
    have hp4 := h.cut 4 (by omega)
    have hp8 := h.part 4 8 (cap - 4) (by omega) (by omega) (by omega)
    have hpr := h.part 16 (len - 16) (cap - 16) (by omega) (by omega) (by omega)
    rw [List.take_of_length_le (by rw [List.length_drop]; omega)] at hpr
    have hL16 : ¬ l.length < 16 := by omega
    have k4 : (4 : Int) ≤ (cap : Int) := by omega
    have k12 : (12 : Int) ≤ (cap : Int) := by omega
    have k16 : (16 : Int) ≤ (len : Int) := by omega
    have v4 := getV_small (l.take 4) hp4.byt 4 (List.length_take_le _ _) (by decide)
    have v8 := getV_bd ((l.drop 4).take 8) hp8.byt
    rw [hp8.len_eq] at v8
    obtain ⟨N, hN⟩ : ∃ N : Nat, getV (l.take 4) = (N : Int) := ⟨(getV (l.take 4)).toNat, by omega⟩
    have hC : rdCF l = N := by unfold rdCF; rw [hN]; rfl
    have HG4 : Bx (∀ w', Below w.heap.size w w' → Calls Tryz.prog 281 #[.slice (some ⟨b, off, none⟩) 4 cap] w' fun e w'' => e = .returned (.tuple #[.int .u64 (N : Int), .bool true]) ∧ w' = w'') := ⟨fun w' hw => by rw [← hN]; exact get_some _ _ _ _ _ (hp4.below hw) (by decide) (by decide)⟩
    have HG8 : Bx (∀ w', Below w.heap.size w w' → Calls Tryz.prog 281 #[.slice (some ⟨b, off + 4, none⟩) 8 (cap - 4)] w' fun e w'' => e = .returned (.tuple #[.int .u64 (getV ((l.drop 4).take 8)), .bool true]) ∧ w' = w'') := ⟨fun w' hw => get_some _ _ _ _ _ (hp8.below hw) (by decide) (by decide)⟩
    generalize hS : getV ((l.drop 4).take 8) = S at v8 HG8
    have HS : Bx (getV ((l.drop 4).take 8) = S) := ⟨hS⟩
    have HN : Bx (getV (l.take 4) = (N : Int)) := ⟨hN⟩
    have HC : Bx (rdCF l = N) := ⟨hC⟩
    have HL : Bx (l.length = len) := ⟨hl⟩
    clear hp4 hp8 hS hN hC v4 hl
    go_enter Tryz.func225, Tryz.ntmps225
    go_wp2_with fail
    refine (summed_any _ len cap 12 l _ h (by omega)).mono ?_
    rintro e w1 ⟨rfl, hb1⟩
    by_cases h2 : (l.drop 12).take 4 = four (crcN (l.take 12))
    · rw [decide_eq_true h2]
      have H2 : Bx ((l.drop 12).take 4 = four (crcN (l.take 12))) := ⟨h2⟩
      clear h2
      go_wp2_with fail
      refine (HG4.out _ hb1).mono ?_
      rintro e w' ⟨rfl, rfl⟩
      clear HG4
      go_wp2_with fail
      refine (HG8.out _ hb1).mono ?_
      rintro e w' ⟨rfl, rfl⟩
      clear HG8
      by_cases h3 : S = 0
      · have HE : Bx (rdE l = 4) := ⟨rd_form hL16 H2.out (by rw [HS.out, h3])⟩
        go_wp2
        exact bodyPost_ret (v := .tuple #[.int .u64 0, .slice none 0 0, .int .i64 0, .int .i64 4]) (by simp [results, Tryz.results225, go_sem]) rfl (RdP.no HE.out (by decide) hb1)
      · have h3b : (S == 0) = false := by simpa using h3
        have H3 : Bx (getV ((l.drop 4).take 8) ≠ 0) := ⟨by rw [HS.out]; exact h3⟩
        by_cases h4 : 16384 < N
        · have HE : Bx (rdE l = 5) := ⟨rd_big hL16 H2.out H3.out (by rw [HN.out]; omega)⟩
          have h4' : (16384 : Int) < (N : Int) := by omega
          go_wp2
          exact bodyPost_ret (v := .tuple #[.int .u64 0, .slice none 0 0, .int .i64 0, .int .i64 5]) (by simp [results, Tryz.results225, go_sem]) rfl (RdP.no HE.out (by decide) hb1)
        · have H4 : Bx (getV (l.take 4) ≤ 16384) := ⟨by rw [HN.out]; omega⟩
          have h4' : ¬ (16384 : Int) < (N : Int) := by omega
          have hcv : IntKind.i64.wrap (N : Int) = (N : Int) := by rw [IntWalk.i64_in _ (by omega)]
          have hd4 : IntKind.i64.wrap ((N : Int) + 4) = (N : Int) + 4 := by rw [IntWalk.i64_in _ (by omega)]
          by_cases hc16 : cap = 16
          · have HE : Bx (rdE l = 3) := ⟨rd_less hL16 H2.out H3.out (Int.not_lt.2 H4.out) (by rw [HC.out, HL.out]; omega)⟩
            have hl16 : len = 16 := by omega
            subst hc16 hl16
            have h5' : (0 : Int) < (N : Int) + 4 := by omega
            go_wp2_with fail
            go_quiet (fail)
            have hbq := below_drewN hb1 nq
            go_wp2
            exact bodyPost_ret (v := .tuple #[.int .u64 0, .slice none 0 0, .int .i64 0, .int .i64 3]) (by simp [results, Tryz.results225, go_sem]) rfl (RdP.no HE.out (by decide) hbq)
          go_wp2_with fail
          go_quiet (fail)
          have hpq := hpr.below (below_drewN hb1 nq)
          have hbq := below_drewN hb1 nq
          by_cases h5 : len < 20 + N
          · have HE : Bx (rdE l = 3) := ⟨rd_less hL16 H2.out H3.out (Int.not_lt.2 H4.out) (by rw [HC.out, HL.out]; omega)⟩
            have h5' : ((len - 16 : Nat) : Int) < (N : Int) + 4 := by omega
            go_wp2
            exact bodyPost_ret (v := .tuple #[.int .u64 0, .slice none 0 0, .int .i64 0, .int .i64 3]) (by simp [results, Tryz.results225, go_sem]) rfl (RdP.no HE.out (by decide) hbq)
          · have H5 : Bx (20 + rdCF l ≤ l.length) := ⟨by rw [HC.out, HL.out]; omega⟩
            have h5' : ¬ ((len - 16 : Nat) : Int) < (N : Int) + 4 := by omega
            have h5n : N + 4 ≤ len - 16 := by omega
            have k5 : (N : Int) ≤ ((cap - 16 : Nat) : Int) := by omega
            go_wp2_with fail
            refine (summed_any _ (len - 16) (cap - 16) N (l.drop 16) _ hpq h5n).mono ?_
            rintro e w2 ⟨rfl, hb2⟩
            rw [List.drop_drop]
            have hb2' := bstep hbq hb2
            by_cases h6 : (l.drop (16 + N)).take 4 = four (crcN ((l.drop 16).take N))
            · rw [decide_eq_true h6]
              have HE : Bx (rdE l = 0) := ⟨(rdE_ok l).2 ⟨by omega, H2.out, H3.out, H4.out, H5.out, by rw [HC.out]; exact h6⟩⟩
              have hpt := (hpq.below hb2).cut N (by omega)
              clear h6 hpq hpr hb2 hbq hb1
              go_wp2_with fail
              refine (clone_any _ N _ _ _ hpt (by omega)).mono ?_
              rintro e w3 ⟨v3, rfl, hown3, hb3⟩
              have hown3' := owns_base hown3 hb2'.size
              have hb3' := bstep hb2' hb3
              clear hown3 hb3 hpt hb2'
              go_wp2_with fail
              refine (size_any (N : Int) _ (by omega)).mono ?_
              rintro e w' ⟨rfl, rfl⟩
              have HZ : Hid (20 + max (N : Int) 0 = 20 + (N : Int)) := by show _ = _; omega
              generalize 20 + max (N : Int) 0 = Z at HZ ⊢
              go_wp2
              exact bodyPost_ret (v := .tuple #[.int .u64 S, v3, .int .i64 Z, .int .i64 0]) (by simp [results, Tryz.results225, go_sem]) rfl (RdP.yes HE.out HS.out HC.out HZ.out hown3' hb3')
            · rw [decide_eq_false h6]
              have HE : Bx (rdE l = 13) := ⟨rd_text hL16 H2.out H3.out (Int.not_lt.2 H4.out) (Nat.not_lt.2 H5.out) (by rw [HC.out]; exact h6)⟩
              clear h6
              go_wp2
              exact bodyPost_ret (v := .tuple #[.int .u64 0, .slice none 0 0, .int .i64 0, .int .i64 13]) (by simp [results, Tryz.results225, go_sem]) rfl (RdP.no HE.out (by decide) hb2')
    · rw [decide_eq_false h2]
      have HE : Bx (rdE l = 13) := ⟨rd_sum hL16 h2⟩
      clear h2
      go_wp2
      exact bodyPost_ret (v := .tuple #[.int .u64 0, .slice none 0 0, .int .i64 0, .int .i64 13]) (by simp [results, Tryz.results225, go_sem]) rfl (RdP.no HE.out (by decide) hb1)
end Go.Proofs.YtipakjenggeflaaGreatDoor
namespace Go.Proofs.YtipakjenggeflaaGreatDoor
open Go.RowKit
set_option linter.unusedVariables false

/-- how many sectors so many bytes take -/
def ns (n : Nat) : Nat := (n + 63) / 64
/-- the bytes of sectors -/
def flat (F : List (List Int)) : List Int := F.flatten
set_option maxRecDepth 100000 in
theorem flat_cons (x : List Int) (F : List (List Int)) : flat (x :: F) = x ++ flat F := rfl
set_option maxRecDepth 100000 in
theorem flat_append (F G : List (List Int)) : flat (F ++ G) = flat F ++ flat G := by simp [flat]
set_option maxRecDepth 100000 in
theorem flat_lenW {F : List (List Int)} (h : Sxl F) : (flat F).length = 64 * F.length := by
  induction F with
  | nil => rfl
  | cons x r ih =>
    rw [flat_cons, List.length_append, ih (fun d hd => h d (by simp [hd])), (h x (by simp)).1, List.length_cons]; omega
set_option maxRecDepth 100000 in
theorem flat_byt {F : List (List Int)} (h : Sxl F) : Byt (flat F) := by
  intro c hc
  obtain ⟨d, hd, hcd⟩ := List.mem_flatten.1 hc
  exact (h d hd).2 c hcd
set_option maxRecDepth 100000 in
theorem Sxl.drop {F : List (List Int)} (h : Sxl F) (k : Nat) : Sxl (F.drop k) := fun d hd => h d (List.mem_of_mem_drop hd)
set_option maxRecDepth 100000 in
theorem Sxl.take {F : List (List Int)} (h : Sxl F) (k : Nat) : Sxl (F.take k) := fun d hd => h d (List.mem_of_mem_take hd)
set_option maxRecDepth 100000 in
theorem flat_drop {F : List (List Int)} (h : Sxl F) (k : Nat) : (flat F).drop (64 * k) = flat (F.drop k) := by
  by_cases hk : k ≤ F.length
  · have e : flat F = flat (F.take k) ++ flat (F.drop k) := by rw [← flat_append, List.take_append_drop]
    have hl : (flat (F.take k)).length = 64 * k := by rw [flat_lenW (h.take k), List.length_take]; congr 1; omega
    rw [e, ← hl, List.drop_left]
  · rw [List.drop_of_length_le (by rw [flat_lenW h]; omega), List.drop_of_length_le (by omega)]; rfl
set_option maxRecDepth 100000 in
theorem flat_sec {F : List (List Int)} (h : Sxl F) (k : Nat) (hk : k < F.length) : ((flat F).drop (64 * k)).take 64 = F.getD k [] := by
  rw [flat_drop h, List.drop_eq_getElem_cons hk, flat_cons, List.getD_eq_getElem?_getD, List.getElem?_eq_getElem hk]
  have h1 := (h _ (List.getElem_mem hk)).1
  show List.take 64 (F[k] ++ _) = F[k]
  rw [← h1, List.take_left]
/-- bytes cut into pieces of 64 -/
def prtN : Nat → List Int → List (List Int)
  | 0, _ => []
  | n + 1, f => f.take 64 :: prtN n (f.drop 64)
def prt (f : List Int) : List (List Int) := prtN (ns f.length) f
set_option maxRecDepth 100000 in
theorem prtN_len (n : Nat) (f : List Int) : (prtN n f).length = n := by
  induction n generalizing f with
  | zero => rfl
  | succ n ih => rw [prtN, List.length_cons, ih]
set_option maxRecDepth 100000 in
theorem prt_len (f : List Int) : (prt f).length = ns f.length := prtN_len _ _
set_option maxRecDepth 100000 in
theorem prtN_getD (n : Nat) (f : List Int) (i : Nat) (h : i < n) : (prtN n f).getD i [] = (f.drop (64 * i)).take 64 := by
  induction n generalizing f i with
  | zero => omega
  | succ n ih =>
    cases i with
    | zero => rfl
    | succ i =>
      show (prtN n (f.drop 64)).getD i [] = _
      rw [ih _ _ (by omega), List.drop_drop, show 64 + 64 * i = 64 * (i + 1) from by omega]
set_option maxRecDepth 100000 in
theorem prt_getD (f : List Int) (i : Nat) (h : i < ns f.length) : (prt f).getD i [] = (f.drop (64 * i)).take 64 := prtN_getD _ _ _ h
/-- its sectors -/
def chkW (f : List Int) : List (List Int) := (prt f).map pad64
set_option maxRecDepth 100000 in
theorem chk_len (f : List Int) : (chkW f).length = ns f.length := by rw [chkW, List.length_map, prt_len]
set_option maxRecDepth 100000 in
theorem prtN_mem (n : Nat) (f : List Int) (h : Byt f) : ∀ p ∈ prtN n f, p.length ≤ 64 ∧ Byt p := by
  induction n generalizing f with
  | zero => intro p hp; cases hp
  | succ n ih =>
    intro p hp
    rw [prtN] at hp
    rcases List.mem_cons.1 hp with h1 | h1
    · rw [h1]; exact ⟨List.length_take_le _ _, h.take 64⟩
    · exact ih (f.drop 64) (fun c hc => h c (List.mem_of_mem_drop hc)) p h1
set_option maxRecDepth 100000 in
theorem pad_nilW (n : Nat) : flat ((prtN n []).map pad64) = List.replicate (64 * n) 0 := by
  induction n with
  | zero => rfl
  | succ n ih =>
    show pad64 (([] : List Int).take 64) ++ flat ((prtN n (([] : List Int).drop 64)).map pad64) = _
    rw [List.take_nil, List.drop_nil, ih, show 64 * (n + 1) = 64 + 64 * n from by omega, ← List.replicate_append_replicate]; rfl
set_option maxRecDepth 100000 in
theorem flat_prtN (n : Nat) (f : List Int) (h : f.length ≤ 64 * n) : flat ((prtN n f).map pad64) = f ++ List.replicate (64 * n - f.length) 0 := by
  induction n generalizing f with
  | zero =>
    have : f = [] := List.eq_nil_of_length_eq_zero (by omega)
    subst this; rfl
  | succ n ih =>
    show pad64 (f.take 64) ++ flat ((prtN n (f.drop 64)).map pad64) = _
    by_cases h64 : f.length ≤ 64
    · have e1 : f.take 64 = f := List.take_of_length_le h64
      have e2 : f.drop 64 = [] := List.drop_of_length_le h64
      rw [e1, e2, pad_nilW, pad64, List.append_assoc, List.replicate_append_replicate]
      congr 2; omega
    · have e1 : pad64 (f.take 64) = f.take 64 := by
        unfold pad64
        rw [List.length_take, show 64 - min 64 f.length = 0 from by omega]; simp
      rw [e1, ih _ (by rw [List.length_drop]; omega), ← List.append_assoc, List.take_append_drop, List.length_drop]
      congr 2; omega
set_option maxRecDepth 100000 in
theorem ns_ge (n : Nat) : n ≤ 64 * ns n := by unfold ns; omega
set_option maxRecDepth 100000 in
theorem flat_chk (f : List Int) : flat (chkW f) = f ++ List.replicate (64 * ns f.length - f.length) 0 := flat_prtN _ _ (ns_ge _)
/-- a text that goes into a frame -/
def TOkW (T : List (List Int)) : Prop := ∀ t ∈ T, t.length ≤ 16384 ∧ Byt t
set_option maxRecDepth 100000 in
theorem TOkW.nil : TOkW [] := fun t ht => by cases ht
set_option maxRecDepth 100000 in
theorem TOkW.append {T U : List (List Int)} (h : TOkW T) (k : TOkW U) : TOkW (T ++ U) := fun t ht => by
  rcases List.mem_append.1 ht with h1 | h1
  · exact h t h1
  · exact k t h1
set_option maxRecDepth 100000 in
theorem TOkW.one {t : List Int} (h : t.length ≤ 16384) (hb : Byt t) : TOkW [t] := fun u hu => by rw [List.mem_singleton.1 hu]; exact ⟨h, hb⟩
set_option maxRecDepth 100000 in
theorem TOkW.snoc {T : List (List Int)} {t : List Int} (h : TOkW T) (h1 : t.length ≤ 16384) (hb : Byt t) : TOkW (T ++ [t]) := h.append (TOkW.one h1 hb)
/-- the frames of texts, behind k others -/
def FrS : Nat → List (List Int) → List (List Int)
  | _, [] => []
  | k, t :: r => chkW (frmL ((k : Int) + 1) t) ++ FrS (k + 1) r
set_option maxRecDepth 100000 in
theorem FrS_append (k : Nat) (T U : List (List Int)) : FrS k (T ++ U) = FrS k T ++ FrS (k + T.length) U := by
  induction T generalizing k with
  | nil => rfl
  | cons t r ih =>
    rw [List.cons_append, FrS, FrS, ih, List.append_assoc, List.length_cons, show k + 1 + r.length = k + (r.length + 1) from by omega]
set_option maxRecDepth 100000 in
theorem FrS_snoc (T : List (List Int)) (t : List Int) : FrS 0 (T ++ [t]) = FrS 0 T ++ chkW (frmL ((T.length : Int) + 1) t) := by
  rw [FrS_append, Nat.zero_add]
  show _ ++ (chkW _ ++ []) = _
  rw [List.append_nil]
set_option maxRecDepth 100000 in
theorem ns_pos (n : Nat) : 1 ≤ ns (20 + n) := by unfold ns; omega
set_option maxRecDepth 100000 in
theorem FrS_len_ge (k : Nat) (T : List (List Int)) : T.length ≤ (FrS k T).length := by
  induction T generalizing k with
  | nil => exact Nat.le_refl _
  | cons t r ih =>
    have := ih (k + 1)
    have h2 := ns_pos t.length
    rw [FrS, List.length_append, chk_len, frmL_len, List.length_cons]; omega
/-- what is read: the texts, and where they end -/
def rfr (F : List (List Int)) : Nat → Nat → List (List Int) → Option (List (List Int) × Nat)
  | 0, _, _ => none
  | u + 1, p, T => if p < F.length ∧ F.getD p [] ≠ s0 then (if rdE (flat (F.drop p)) = 0 ∧ rdS (flat (F.drop p)) = (T.length : Int) + 1 then rfr F u (p + ns (rdNF (flat (F.drop p)))) (T ++ [rdT (flat (F.drop p))]) else none) else some (T, p)
def rdFW (F : List (List Int)) : Option (List (List Int) × Nat) := rfr F (F.length + 1) 0 []
set_option maxRecDepth 100000 in
/-- a frame's first sector is not noughts -/
theorem putL_zero (x : Int) (n : Nat) (h0 : 1 ≤ x) (h : x < 256 ^ n) : putL x n ≠ List.replicate n 0 := by
  intro e
  have h1 := getV_putL x n (by omega)
  rw [e, Int.emod_eq_of_lt (by omega) h] at h1
  have h2 : getV (List.replicate n 0) = 0 := by
    unfold getV
    suffices H : ∀ n : Nat, (List.replicate n (0 : Int)).foldl (fun y c => 256 * y + c) 0 = 0 from H n
    intro n
    induction n with
    | zero => rfl
    | succ n ih => rw [List.replicate_succ, List.foldl_cons]; exact ih
  omega
set_option maxRecDepth 100000 in
theorem chk_first (k : Nat) (t : List Int) (z : List (List Int)) (hk : k < 1000000) : (chkW (frmL ((k : Int) + 1) t) ++ z).getD 0 [] ≠ s0 := by
  have hl : 20 ≤ (frmL ((k : Int) + 1) t).length := by rw [frmL_len]; omega
  have hn : 0 < ns (frmL ((k : Int) + 1) t).length := by unfold ns; omega
  have e : (chkW (frmL ((k : Int) + 1) t) ++ z).getD 0 [] = pad64 ((frmL ((k : Int) + 1) t).take 64) := by
    have h1 : 0 < (chkW (frmL ((k : Int) + 1) t)).length := by rw [chk_len]; exact hn
    have h2 := prt_getD (frmL ((k : Int) + 1) t) 0 hn
    have h3 : 0 < (prt (frmL ((k : Int) + 1) t)).length := by rw [prt_len]; exact hn
    rw [List.getD_eq_getElem?_getD, List.getElem?_append_left h1]
    unfold chkW
    rw [List.getElem?_map, List.getElem?_eq_getElem h3]
    rw [List.getD_eq_getElem?_getD, List.getElem?_eq_getElem h3] at h2
    show pad64 (prt _)[0] = _
    rw [show (prt (frmL ((k : Int) + 1) t))[0] = ((frmL ((k : Int) + 1) t).drop (64 * 0)).take 64 from h2]; rfl
  rw [e]
  intro hs
  have h12 : (s0.drop 4).take 8 = List.replicate 8 0 := by decide
  have hd : ((frmL ((k : Int) + 1) t).drop 4).take 8 = putL ((k : Int) + 1) 8 := by
    unfold frmL headLF
    rw [List.append_assoc, List.drop_append_of_le_length (by rw [putL_length]; exact Nat.le_refl _), List.drop_of_length_le (by rw [putL_length]; exact Nat.le_refl _), List.nil_append, List.take_append_of_le_length (by rw [putL_length]; exact Nat.le_refl _), List.take_of_length_le (by rw [putL_length]; exact Nat.le_refl _)]
  have e2 : ((pad64 ((frmL ((k : Int) + 1) t).take 64)).drop 4).take 8 = ((frmL ((k : Int) + 1) t).drop 4).take 8 := by
    unfold pad64
    rw [List.drop_append_of_le_length (by rw [List.length_take]; omega), List.take_append_of_le_length (by rw [List.length_drop, List.length_take]; omega), List.drop_take, List.take_take]
    congr 1
  rw [hs, h12, hd] at e2
  exact putL_zero _ 8 (by omega) (by omega) e2.symm
/-- behind the log's end a sector of noughts, or nothing -/
def HdW (D : List (List Int)) : Prop := ∀ x, D[0]? = some x → x = s0
def Lay (T : List (List Int)) (F : List (List Int)) : Prop := ∃ D, F = FrS 0 T ++ D ∧ HdW D
set_option maxRecDepth 100000 in
theorem rfr_lay (F D : List (List Int)) (hF : Sxl F) (hD : HdW D) : ∀ (R : List (List Int)) (u p : Nat) (T : List (List Int)), F.drop p = FrS T.length R ++ D → p ≤ F.length → R.length < u → TOkW R → T.length + R.length < 1000000 → rfr F u p T = some (T ++ R, p + (FrS T.length R).length) := by
  intro R
  induction R with
  | nil =>
    intro u p T hd hp hu _ _
    obtain ⟨u, rfl⟩ : ∃ v, u = v + 1 := ⟨u - 1, by simp at hu; omega⟩
    have hd : F.drop p = D := hd
    rw [rfr, if_neg, List.append_nil]; rfl
    rintro ⟨h1, h2⟩
    refine h2 (hD _ ?_)
    rw [← hd, List.getElem?_drop, List.getD_eq_getElem?_getD, Nat.add_zero, List.getElem?_eq_getElem h1]; rfl
  | cons t r ih =>
    intro u p T hd hp hu hT hs
    obtain ⟨u, rfl⟩ : ∃ v, u = v + 1 := ⟨u - 1, by simp at hu; omega⟩
    simp only [List.length_cons] at hu hs
    have hc1 := chk_len (frmL ((T.length : Int) + 1) t)
    rw [frmL_len] at hc1
    have hpos := ns_pos t.length
    have hd : F.drop p = chkW (frmL ((T.length : Int) + 1) t) ++ (FrS (T.length + 1) r ++ D) := by rw [hd, FrS, List.append_assoc]
    have hfl : flat (F.drop p) = frmL ((T.length : Int) + 1) t ++ (List.replicate (64 * ns (20 + t.length) - (20 + t.length)) 0 ++ flat (FrS (T.length + 1) r ++ D)) := by
      rw [hd, flat_append, flat_chk, frmL_len, List.append_assoc]
    obtain ⟨b1, b2, b3, b4⟩ := rd_back ((T.length : Int) + 1) t (List.replicate (64 * ns (20 + t.length) - (20 + t.length)) 0 ++ flat (FrS (T.length + 1) r ++ D)) (by omega) (by omega) (hT t (by simp)).1
    rw [← hfl] at b1 b2 b3 b4
    have hlen : (F.drop p).length = F.length - p := List.length_drop
    have hlt : p < F.length := by
      have : 0 < (F.drop p).length := by rw [hd, List.length_append, hc1]; omega
      omega
    have hfst : F.getD p [] ≠ s0 := by
      have h1 := chk_first T.length t (FrS (T.length + 1) r ++ D) (by omega)
      rw [← hd, List.getD_eq_getElem?_getD, List.getElem?_drop, Nat.add_zero, ← List.getD_eq_getElem?_getD] at h1
      exact h1
    rw [rfr, if_pos ⟨hlt, hfst⟩, if_pos ⟨b1, b2⟩, b3, b4]
    have hdr : F.drop (p + ns (20 + t.length)) = FrS (T ++ [t]).length r ++ D := by
      rw [← List.drop_drop, hd, ← hc1, List.drop_left, List.length_append]; rfl
    have hle : p + ns (20 + t.length) ≤ F.length := by
      have : (F.drop p).length = ns (20 + t.length) + (FrS (T.length + 1) r ++ D).length := by rw [hd, List.length_append, hc1]
      omega
    rw [ih u (p + ns (20 + t.length)) (T ++ [t]) hdr hle (by omega) (fun x hx => hT x (by simp [hx])) (by rw [List.length_append]; simp; omega)]
    rw [List.append_assoc, FrS, List.length_append, List.length_append, hc1]
    show some (T ++ t :: r, _) = some (T ++ t :: r, _)
    rw [show T.length + [t].length = T.length + 1 from rfl, Nat.add_assoc]
set_option maxRecDepth 100000 in
theorem rd_lay {T F : List (List Int)} (hF : Sxl F) (h : Lay T F) (hT : TOkW T) (hn : F.length ≤ 4096) : rdFW F = some (T, (FrS 0 T).length) := by
  obtain ⟨D, hd, hD⟩ := h
  have h1 := FrS_len_ge 0 T
  have h2 : F.length = (FrS 0 T).length + D.length := by rw [hd, List.length_append]
  have := rfr_lay F D hF hD T (F.length + 1) 0 [] hd (Nat.zero_le _) (by omega) hT (by simp; omega)
  rw [rdFW, this, List.nil_append, Nat.zero_add]; rfl
set_option maxRecDepth 100000 in
/-- what is read, step by step, stays on the disk -/
theorem rdN_le {X : List Int} (hX : Byt X) (h : rdE X = 0) : rdNF X ≤ X.length ∧ 20 ≤ rdNF X ∧ (rdT X).length ≤ 16384 ∧ rdNF X = 20 + (rdT X).length ∧ rdS X < 18446744073709551616 := by
  obtain ⟨_, _, h3, h4, h5, h6⟩ := rd_one X hX h
  have : rdNF X = 20 + rdCF X := by unfold rdNF; rw [if_pos h]
  exact ⟨h5, by omega, h4, by omega, h3⟩
set_option maxRecDepth 100000 in
theorem rdT_byt {X : List Int} (hX : Byt X) : Byt (rdT X) := by
  unfold rdT; split
  · exact fun c hc => hX c (List.mem_of_mem_drop (List.mem_of_mem_take hc))
  · exact Byt.nil
end Go.Proofs.YtipakjenggeflaaGreatDoor
namespace Go.Proofs.YtipakjenggeflaaGreatDoor
open Go.RowKit
set_option linter.unusedVariables false

/-- noughts alone -/
def Zs (z : Nat) : List (List Int) := List.replicate z s0
set_option maxRecDepth 100000 in
theorem Zs_hd (z : Nat) : HdW (Zs z) := fun x hx => by
  have := List.mem_of_getElem? hx
  exact List.eq_of_mem_replicate this
set_option maxRecDepth 100000 in
theorem Lay.set {T F : List (List Int)} (h : Lay T F) (p : Nat) (X : List Int) (hp : (FrS 0 T).length ≤ p) (hX : p = (FrS 0 T).length → X = s0) : Lay T (F.set p X) := by
  obtain ⟨D, hd, hD⟩ := h
  refine ⟨D.set (p - (FrS 0 T).length) X, ?_, fun x hx => ?_⟩
  · rw [hd, List.set_append_right _ _ hp]
  · rw [List.getElem?_set] at hx
    by_cases he : p - (FrS 0 T).length = 0
    · rw [if_pos he] at hx
      by_cases h0 : 0 < D.length
      · rw [if_pos (by omega)] at hx
        rw [← hX (by omega)]
        exact (Option.some.inj hx).symm
      · rw [if_neg (by omega)] at hx; cases hx
    · rw [if_neg he] at hx; exact hD x hx
set_option maxRecDepth 100000 in
theorem Lay.app {T : List (List Int)} (O : List (Nat × List Int)) : ∀ {F : List (List Int)}, Lay T F → (∀ o ∈ O, (FrS 0 T).length ≤ o.1 ∧ (o.1 = (FrS 0 T).length → o.2 = s0)) → Lay T (app F O) := by
  induction O with
  | nil => intro F h _; exact h
  | cons o r ih =>
    intro F h ho
    exact ih (h.set o.1 o.2 (ho o (by simp)).1 (ho o (by simp)).2) (fun q hq => ho q (by simp [hq]))
set_option maxRecDepth 100000 in
theorem Lay.kpt {T F : List (List Int)} {O : List (Nat × List Int)} (h : Lay T F) (ho : ∀ o ∈ O, (FrS 0 T).length ≤ o.1 ∧ (o.1 = (FrS 0 T).length → o.2 = s0)) (K : List Bool) : Lay T (Proofs.YtipakjenggeflaaGreatDoor.app F (kpt O K)) :=
  h.app _ (fun o hm => ho o (kpt_mem O K o hm))
/-- noughts written behind the end, the last sector first: j sectors are left to be looked at -/
def wipL (N : List (List Int)) (p : Nat) : Nat → DS → Bool → DS × Bool × Int
  | 0, s, b => (s, b, 0)
  | j + 1, s, b => if N.getD (p + j) [] = s0 then wipL N p j s b else if s.wrE ((p + j : Nat) : Int) [] = 0 then wipL N p j (s.wr ((p + j : Nat) : Int) []) true else (s.wr ((p + j : Nat) : Int) [], b, s.wrE ((p + j : Nat) : Int) [])
def DS.wipR (s : DS) (p : Nat) : DS × Bool × Int := wipL s.now p (s.F.length - p) s false
def DS.wipE (s : DS) (p : Nat) : Int := if (s.wipR p).2.2 ≠ 0 then (s.wipR p).2.2 else if (s.wipR p).2.1 then (s.wipR p).1.syE else 0
def DS.wipS (s : DS) (p : Nat) : DS := if (s.wipR p).2.2 ≠ 0 then (s.wipR p).1 else if (s.wipR p).2.1 then (s.wipR p).1.sy else (s.wipR p).1
set_option maxRecDepth 100000 in
theorem wip_err {s : DS} {p : Nat} {R : DS × Bool × Int} (hR : s.wipR p = R) (h : R.2.2 ≠ 0) : s.wipE p = R.2.2 ∧ s.wipS p = R.1 := by
  unfold DS.wipE DS.wipS; rw [hR, if_pos h, if_pos h]; exact ⟨rfl, rfl⟩
set_option maxRecDepth 100000 in
theorem wip_no {s : DS} {p : Nat} {R : DS × Bool × Int} (hR : s.wipR p = R) (h : R.2.2 = 0) (hb : R.2.1 = false) : s.wipE p = 0 ∧ s.wipS p = R.1 := by
  unfold DS.wipE DS.wipS; have h' : ¬ R.2.2 ≠ 0 := fun k => k h
  rw [hR, if_neg h', if_neg h', hb]; exact ⟨rfl, rfl⟩
set_option maxRecDepth 100000 in
theorem wip_sy {s : DS} {p : Nat} {R : DS × Bool × Int} (hR : s.wipR p = R) (h : R.2.2 = 0) (hb : R.2.1 = true) : s.wipE p = R.1.syE ∧ s.wipS p = R.1.sy := by
  unfold DS.wipE DS.wipS; have h' : ¬ R.2.2 ≠ 0 := fun k => k h
  rw [hR, if_neg h', if_neg h', hb]; exact ⟨rfl, rfl⟩
set_option maxRecDepth 100000 in
theorem wr_on {s : DS} (h : s.off = false) {x : Nat} {b : List Int} (hx : x < s.F.length) (hb : b.length ≤ 64) :
    (s.wrE x b = 0 ∧ s.wr x b = { s.tick with O := s.O ++ [(x, pad64 b)] } ∧ s.last = false) ∨ (s.wrE x b = 14 ∧ s.wr x b = s.dead ∧ s.last = true) := by
  have hf : s.fits x b = true := DS.fits_iff.2 ⟨by omega, by omega, hb⟩
  unfold DS.wrE DS.wr
  rw [h, hf]
  cases hl : s.last
  · exact .inl ⟨rfl, rfl, rfl⟩
  · exact .inr ⟨rfl, rfl, rfl⟩
set_option maxRecDepth 100000 in
theorem sy_on {s : DS} (h : s.off = false) : (s.syE = 0 ∧ s.sy = { s.tick with F := app s.F s.O, O := [] } ∧ s.last = false) ∨ (s.syE = 14 ∧ s.sy = s.dead ∧ s.last = true) := by
  unfold DS.syE DS.sy
  rw [h]
  cases hl : s.last
  · exact .inl ⟨rfl, rfl, rfl⟩
  · exact .inr ⟨rfl, rfl, rfl⟩
set_option maxRecDepth 100000 in
theorem last_un {s : DS} (h : s.armed = false) : s.last = false := by unfold DS.last; rw [h]; rfl
set_option maxRecDepth 100000 in
theorem wr_same {s : DS} (x : Int) (b : List Int) : (s.wr x b).F = s.F := by
  unfold DS.wr
  split
  · rfl
  · split
    · split <;> rfl
    · rfl
/-- a log at rest: frames, then noughts -/
structure Rest (s : DS) (T : List (List Int)) : Prop where
  off : s.off = false
  o : s.O = []
  t : TOkW T
  f : ∃ z, s.F = FrS 0 T ++ Zs z
set_option maxRecDepth 100000 in
theorem Rest.lay {s : DS} {T : List (List Int)} (h : Rest s T) : Lay T s.F := by
  obtain ⟨z, hz⟩ := h.f
  exact ⟨Zs z, hz, Zs_hd z⟩
set_option maxRecDepth 100000 in
/-- at rest nothing is written -/
theorem wip_rest {s : DS} {T : List (List Int)} (h : Rest s T) : s.wipE (FrS 0 T).length = 0 ∧ s.wipS (FrS 0 T).length = s := by
  obtain ⟨z, hz⟩ := h.f
  have hnow : s.now = s.F := by unfold DS.now; rw [h.o]; rfl
  have H : ∀ j, j ≤ z → wipL s.now (FrS 0 T).length j s false = (s, false, 0) := by
    intro j
    induction j with
    | zero => intro _; rfl
    | succ j ih =>
      intro hj
      rw [wipL, if_pos, ih (by omega)]
      rw [hnow, hz, List.getD_eq_getElem?_getD, List.getElem?_append_right (by omega), Nat.add_sub_cancel_left, Zs, List.getElem?_replicate, if_pos (by omega)]; rfl
  have hl : s.F.length - (FrS 0 T).length = z := by rw [hz, List.length_append, Zs, List.length_replicate]; omega
  unfold DS.wipE DS.wipS DS.wipR
  rw [hl, H z (Nat.le_refl _)]
  exact ⟨rfl, rfl⟩
/-- pieces written one behind the other, up to the first error -/
def wrL : DS → Nat → List (List Int) → DS × Int
  | s, _, [] => (s, 0)
  | s, p, b :: r => if s.wrE (p : Int) b = 0 then wrL (s.wr (p : Int) b) (p + 1) r else (s.wr (p : Int) b, s.wrE (p : Int) b)
/-- a frame: all but the first piece, a Sync if there is one, the first, a Sync -/
def DS.apW (s : DS) (p : Nat) (P : List (List Int)) : DS × Int :=
  let a := wrL s (p + 1) (P.drop 1)
  if a.2 ≠ 0 then a else
  let b : DS × Int := if 1 < P.length then (a.1.sy, a.1.syE) else (a.1, 0)
  if b.2 ≠ 0 then b else
  if b.1.wrE (p : Int) (P.getD 0 []) ≠ 0 then (b.1.wr (p : Int) (P.getD 0 []), b.1.wrE (p : Int) (P.getD 0 [])) else
  ((b.1.wr (p : Int) (P.getD 0 [])).sy, (b.1.wr (p : Int) (P.getD 0 [])).syE)
def ws : Nat → List (List Int) → List (Nat × List Int)
  | _, [] => []
  | p, b :: r => (p, pad64 b) :: ws (p + 1) r
set_option maxRecDepth 100000 in
theorem ws_ge (P : List (List Int)) : ∀ p, ∀ o ∈ ws p P, p ≤ o.1 := by
  induction P with
  | nil => intro p o ho; cases ho
  | cons b r ih =>
    intro p o ho
    rw [ws] at ho
    rcases List.mem_cons.1 ho with h | h
    · rw [h]; exact Nat.le_refl _
    · have := ih (p + 1) o h; omega
set_option maxRecDepth 100000 in
theorem ws_app (P : List (List Int)) : ∀ (A Z : List (List Int)), P.length ≤ Z.length → app (A ++ Z) (ws A.length P) = A ++ P.map pad64 ++ Z.drop P.length := by
  induction P with
  | nil => intro A Z _; simp [ws, app]
  | cons b r ih =>
    intro A Z h
    cases Z with
    | nil => simp at h
    | cons z Z =>
      rw [ws, app]
      have e : (A ++ z :: Z).set A.length (pad64 b) = (A ++ [pad64 b]) ++ Z := by simp
      rw [e]
      have := ih (A ++ [pad64 b]) Z (by simpa using h)
      rw [List.length_append] at this
      rw [show A.length + 1 = A.length + [pad64 b].length from rfl, this]
      simp
set_option maxRecDepth 100000 in
theorem wrL_all (P : List (List Int)) : ∀ (s : DS) (p : Nat), s.off = false → p + P.length ≤ s.F.length → (∀ b ∈ P, b.length ≤ 64) →
    ∃ O', (wrL s p P).1.F = s.F ∧ (wrL s p P).1.O = s.O ++ O' ∧ O'.length ≤ P.length ∧ (∀ o ∈ O', o ∈ ws p P) ∧ (((wrL s p P).2 = 0 ∧ O' = ws p P ∧ (wrL s p P).1.off = false) ∨ ((wrL s p P).2 = 14 ∧ (wrL s p P).1.off = true)) ∧ (s.armed = false → (wrL s p P).2 = 0 ∧ (wrL s p P).1.armed = false) := by
  induction P with
  | nil => intro s p h _ _; exact ⟨[], rfl, (List.append_nil _).symm, Nat.zero_le _, (fun o ho => by cases ho), .inl ⟨rfl, rfl, h⟩, fun ha => ⟨rfl, ha⟩⟩
  | cons b r ih =>
    intro s p h hp hb
    rw [List.length_cons] at hp
    rcases wr_on h (x := p) (b := b) (by omega) (hb b (by simp)) with ⟨w1, w2, w3⟩ | ⟨w1, w2, w3⟩
    · have e : wrL s p (b :: r) = wrL (s.wr (p : Int) b) (p + 1) r := by rw [wrL, if_pos w1]
      rw [e, w2]
      obtain ⟨O', h1, h2, hln, h3, h4, h5⟩ := ih { s.tick with O := s.O ++ [(p, pad64 b)] } (p + 1) h (by show p + 1 + r.length ≤ s.F.length; omega) (fun c hc => hb c (by simp [hc]))
      refine ⟨(p, pad64 b) :: O', h1, by rw [h2]; show (s.O ++ [(p, pad64 b)]) ++ O' = _; simp, by rw [List.length_cons, List.length_cons]; omega, fun o ho => ?_, ?_, fun ha => h5 ha⟩
      · rw [ws]
        rcases List.mem_cons.1 ho with h6 | h6
        · rw [h6]; simp
        · exact List.mem_cons_of_mem _ (h3 o h6)
      · rcases h4 with ⟨k1, k2, k3⟩ | h4
        · exact .inl ⟨k1, by rw [ws, k2], k3⟩
        · exact .inr h4
    · have e : wrL s p (b :: r) = (s.dead, 14) := by rw [wrL, if_neg (by rw [w1]; decide), w2, w1]
      rw [e]
      exact ⟨[], rfl, (List.append_nil _).symm, Nat.zero_le _, (fun o ho => by cases ho), .inr ⟨rfl, rfl⟩, fun ha => by rw [last_un ha] at w3; cases w3⟩
set_option maxRecDepth 100000 in
/-- a text that is put behind the others, or the power goes off -/
theorem apW_rest {s : DS} {T : List (List Int)} {t : List Int} (h : Rest s T) (ht : t.length ≤ 16384) (hb : Byt t) (hfit : (FrS 0 T).length + ns (20 + t.length) ≤ s.F.length) :
    let a := s.apW (FrS 0 T).length (prt (frmL ((T.length : Int) + 1) t))
    (s.armed = false → a.2 = 0 ∧ a.1.armed = false) ∧ a.1.F.length = s.F.length ∧ ((a.2 = 0 ∧ Rest a.1 (T ++ [t])) ∨ (a.2 = 14 ∧ a.1.off = true ∧ a.1.O.length ≤ s.F.length ∧ ∀ K, Lay T (app a.1.F (kpt a.1.O K)) ∨ Lay (T ++ [t]) (app a.1.F (kpt a.1.O K)))) := by
  obtain ⟨z, hz⟩ := h.f
  have hsn := FrS_snoc T t
  have hTs := h.t.snoc ht hb
  generalize hP : prt (frmL ((T.length : Int) + 1) t) = P
  have hPl : P.length = ns (20 + t.length) := by rw [← hP, prt_len, frmL_len]
  have hPc : chkW (frmL ((T.length : Int) + 1) t) = P.map pad64 := by rw [chkW, hP]
  have hPb : ∀ b ∈ P, b.length ≤ 64 := fun b hb' => by rw [← hP] at hb'; exact (prtN_mem _ _ (frmL_byt _ _ hb) b hb').1
  have hpos := ns_pos t.length
  rw [hPc] at hsn
  have hzl : s.F.length = (FrS 0 T).length + z := by rw [hz, List.length_append, Zs, List.length_replicate]
  have hLay := h.lay
  have hO0 := h.o
  have hoff := h.off
  generalize hA : FrS 0 T = A at *
  obtain ⟨p0, r, rfl⟩ : ∃ p0 r, P = p0 :: r := by
    cases P with
    | nil => rw [List.length_nil] at hPl; omega
    | cons a b => exact ⟨a, b, rfl⟩
  rw [List.length_cons] at hPl
  obtain ⟨O1, a1, a2, aln, a3, a4, a5⟩ := wrL_all r s (A.length + 1) hoff (by omega) (fun b hb' => hPb b (by simp [hb']))
  rw [hO0, List.nil_append] at a2
  have hO1 : ∀ o ∈ O1, A.length ≤ o.1 ∧ (o.1 = A.length → o.2 = s0) := fun o ho => by
    have := ws_ge r (A.length + 1) o (a3 o ho)
    exact ⟨by omega, fun he => by omega⟩
  have hO1' : ∀ o ∈ O1, (FrS 0 T).length ≤ o.1 ∧ (o.1 = (FrS 0 T).length → o.2 = s0) := by rw [hA]; exact hO1
  -- what lies there when all but the first are written
  have hF1 : app s.F (ws (A.length + 1) r) = A ++ (s0 :: (r.map pad64 ++ Zs (z - 1 - r.length))) := by
    have e : s.F = (A ++ [s0]) ++ Zs (z - 1) := by
      rw [hz, Zs, Zs, show z = 1 + (z - 1) from by omega, ← List.replicate_append_replicate]; simp
    have h1 := ws_app r (A ++ [s0]) (Zs (z - 1)) (by rw [Zs, List.length_replicate]; omega)
    rw [List.length_append] at h1
    rw [e, show A.length + 1 = A.length + [s0].length from rfl, h1, Zs, List.drop_replicate]
    simp [Zs]
  have hsn' : ∀ z', Rest ⟨A ++ ((p0 :: r).map pad64 ++ Zs z'), [], s.armed, s.left, false⟩ (T ++ [t]) := fun z' => ⟨rfl, rfl, hTs, z', by rw [hsn, List.append_assoc]⟩
  have hset : ∀ z', (A ++ (s0 :: (r.map pad64 ++ Zs z'))).set A.length (pad64 p0) = A ++ ((p0 :: r).map pad64 ++ Zs z') := by intro z'; simp
  have hLayM : ∀ z', Lay T (A ++ (s0 :: (r.map pad64 ++ Zs z'))) := fun z' => ⟨_, by rw [hA], fun x hx => (Option.some.inj hx).symm⟩
  have hLayT : ∀ z', Lay (T ++ [t]) (A ++ ((p0 :: r).map pad64 ++ Zs z')) := fun z' => ⟨Zs z', by rw [hsn, List.append_assoc], Zs_hd z'⟩
  -- the last two steps
  have hlast : ∀ m : DS, m.off = false → m.O = [] → m.F = A ++ (s0 :: (r.map pad64 ++ Zs (z - 1 - r.length))) → 
      let c : DS × Int := if m.wrE (A.length : Int) p0 ≠ 0 then (m.wr (A.length : Int) p0, m.wrE (A.length : Int) p0) else ((m.wr (A.length : Int) p0).sy, (m.wr (A.length : Int) p0).syE)
      (m.armed = false → c.2 = 0 ∧ c.1.armed = false) ∧ c.1.F.length = m.F.length ∧ ((c.2 = 0 ∧ Rest c.1 (T ++ [t])) ∨ (c.2 = 14 ∧ c.1.off = true ∧ c.1.O.length ≤ 1 ∧ ∀ K, Lay T (app c.1.F (kpt c.1.O K)) ∨ Lay (T ++ [t]) (app c.1.F (kpt c.1.O K)))) := by
    intro m m1 m2 m3
    have hml : m.F.length = A.length + (1 + (r.length + (z - 1 - r.length))) := by rw [m3]; simp [Zs]; omega
    rcases wr_on m1 (x := A.length) (b := p0) (by omega) (hPb p0 (by simp)) with ⟨w1, w2, w3⟩ | ⟨w1, w2, w3⟩
    · rw [if_neg (by rw [w1]; decide), w2]
      rcases sy_on (s := { m.tick with O := m.O ++ [(A.length, pad64 p0)] }) m1 with ⟨c1, c2, c3⟩ | ⟨c1, c2, c3⟩
      · rw [c1, c2]
        refine ⟨fun ha => ⟨rfl, ha⟩, by show (app m.F (m.O ++ [(A.length, pad64 p0)])).length = _; rw [app_len], .inl ⟨rfl, m1, rfl, hTs, z - 1 - r.length, ?_⟩⟩
        show app m.F (m.O ++ [(A.length, pad64 p0)]) = _
        rw [m2, m3]
        show (A ++ _).set A.length (pad64 p0) = _
        rw [hset, hsn, List.append_assoc]
      · rw [c1, c2]
        refine ⟨fun ha => ?_, rfl, .inr ⟨rfl, rfl, by show (m.O ++ [(A.length, pad64 p0)]).length ≤ 1; rw [m2]; exact Nat.le_refl _, fun K => ?_⟩⟩
        · rw [last_un (s := { m.tick with O := m.O ++ [(A.length, pad64 p0)] }) ha] at c3; cases c3
        · show Lay T (app m.F (kpt (m.O ++ [(A.length, pad64 p0)]) K)) ∨ Lay (T ++ [t]) (app m.F (kpt (m.O ++ [(A.length, pad64 p0)]) K))
          rw [m2, List.nil_append, m3]
          cases K with
          | nil => exact .inl (hLayM _)
          | cons b k =>
            cases b with
            | false => exact .inl (hLayM _)
            | true =>
              right
              show Lay _ ((A ++ _).set A.length (pad64 p0))
              rw [hset]; exact hLayT _
    · rw [if_pos (by rw [w1]; decide), w2, w1]
      refine ⟨(fun ha => by rw [last_un ha] at w3; cases w3), rfl, .inr ⟨rfl, rfl, by show m.O.length ≤ 1; rw [m2]; exact Nat.zero_le _, fun K => ?_⟩⟩
      show Lay T (app m.F (kpt m.O K)) ∨ _
      rw [m2, m3]; exact .inl (hLayM _)
  simp only []
  unfold DS.apW
  simp only [List.drop_one, List.tail_cons, List.getD_cons_zero, List.length_cons]
  generalize wrL s (A.length + 1) r = R at a1 a2 a4 a5
  rcases a4 with ⟨b1, b2, b3⟩ | ⟨b1, b2⟩
  · rw [if_neg (by rw [b1]; decide)]
    by_cases hr : 1 < r.length + 1
    · rw [if_pos hr]
      rcases sy_on b3 with ⟨c1, c2, c3⟩ | ⟨c1, c2, c3⟩
      · rw [c1, c2]
        simp only [if_neg (show ¬ ((0 : Int) ≠ 0) by decide)]
        obtain ⟨l1, l2, l3⟩ := hlast { R.1.tick with F := app R.1.F R.1.O, O := [] } b3 rfl (by show app R.1.F R.1.O = _; rw [a1, a2, b2]; exact hF1)
        refine ⟨fun ha => l1 (a5 ha).2, by rw [l2]; show (app R.1.F R.1.O).length = _; rw [app_len, a1], ?_⟩
        rcases l3 with l3 | ⟨l3, l4, l6, l5⟩
        · exact .inl l3
        · exact .inr ⟨l3, l4, Nat.le_trans l6 (by omega), l5⟩
      · rw [c1, c2]
        simp only [if_pos (show ((14 : Int) ≠ 0) by decide)]
        refine ⟨(fun ha => by rw [last_un (a5 ha).2] at c3; cases c3), by show R.1.F.length = _; rw [a1], .inr ⟨by trivial, rfl, by show R.1.O.length ≤ _; rw [a2]; omega, fun K => .inl ?_⟩⟩
        show Lay T (app R.1.F (kpt R.1.O K))
        rw [a1, a2]; exact hLay.kpt hO1' K
    · rw [if_neg hr]
      simp only [if_neg (show ¬ ((0 : Int) ≠ 0) by decide)]
      have hr0 : r = [] := List.eq_nil_of_length_eq_zero (by omega)
      subst hr0
      have hO1e : O1 = [] := b2
      obtain ⟨l1, l2, l3⟩ := hlast R.1 b3 (by rw [a2, hO1e]) (by rw [a1, ← hF1]; rfl)
      refine ⟨fun ha => l1 (a5 ha).2, by rw [l2, a1], ?_⟩
      rcases l3 with l3 | ⟨l3, l4, l6, l5⟩
      · exact .inl l3
      · exact .inr ⟨l3, l4, Nat.le_trans l6 (by omega), l5⟩
  · rw [if_pos (by rw [b1]; decide)]
    refine ⟨(fun ha => by have := (a5 ha).1; omega), by rw [a1], .inr ⟨b1, b2, by rw [a2]; omega, fun K => .inl ?_⟩⟩
    rw [a1, a2]; exact hLay.kpt hO1' K
end Go.Proofs.YtipakjenggeflaaGreatDoor
