/- What frame.Put answers, and the document's Put; bytes.Clone; that anything is summed at all. -/
import Derived.Test.YtjnjokbdoendkaaGreatSff
import Derived.Laws.Cover3
import Derived.Lib.SlBytesConst
namespace Go.Proofs.YtjnjokbdoendkaaGreat
open Go.RowKit
set_option linter.unusedVariables false

/-- why there is no frame (0: there is) -/
def ptE (seq : Int) (n : Nat) : Int := if seq = 0 then 2 else if 16384 < n then 5 else 0
/-- the frame, or none -/
def ptL (seq : Int) (b : List Int) : List Int := if ptE seq b.length = 0 then frmL seq b else []
set_option maxRecDepth 100000 in
theorem ptL_ok {seq : Int} {b : List Int} (h : ptE seq b.length = 0) : ptL seq b = frmL seq b := by unfold ptL; rw [if_pos h]
set_option maxRecDepth 100000 in
theorem ptL_no {seq : Int} {b : List Int} (h : ptE seq b.length ≠ 0) : ptL seq b = [] := by unfold ptL; rw [if_neg h]
set_option maxRecDepth 100000 in
theorem ptE_arg {seq : Int} (h : seq = 0) (n : Nat) : ptE seq n = 2 := by unfold ptE; rw [if_pos h]
set_option maxRecDepth 100000 in
theorem ptE_big {seq : Int} {n : Nat} (h : seq ≠ 0) (hn : 16384 < n) : ptE seq n = 5 := by unfold ptE; rw [if_neg h, if_pos hn]
set_option maxRecDepth 100000 in
theorem ptE_ok {seq : Int} {n : Nat} (h : seq ≠ 0) (hn : ¬ 16384 < n) : ptE seq n = 0 := by unfold ptE; rw [if_neg h, if_neg hn]
set_option maxRecDepth 100000 in
theorem owns_empty (w : World) (base : Nat) (l : List Int) (h : l = []) : w.ownsRow base 5 1 (.slice none 0 0) l.length (bv l) := by
  rw [h]; exact World.ownsRow_nil _ _ _ _
set_option maxRecDepth 100000 in
theorem eql_nil (w : World) (a : Option Addr) (l c : Nat) : (binOp .eql 46 (.slice a l c) (.slice none 0 0)).run Tryz.prog w = .ok (.bool a.isNone) w := by
  simp only [binOp]
  simp [run_equal_slice_nil w _ _ a l c Tryz.underlying46]
set_option maxRecDepth 100000 in
set_option maxHeartbeats 400000 in
theorem clone_any (a : Option Addr) (len cap : Nat) (l : List Int) (w : World) (h : Bts w a len cap l) (hs : len ≤ 1099511627776) :
    Calls Tryz.prog 56 #[.slice a len cap] w fun e w' => ∃ v, e = .returned v ∧ w'.ownsRow w.heap.size 5 1 v len (bv l) ∧ Below w.heap.size w w' := by
  cases a with
  | none =>
    have hc0 := h.nil rfl
    have hlc := h.le_cap
    have hl := h.len_eq
    obtain rfl : cap = 0 := hc0
    obtain rfl : len = 0 := by omega
    obtain rfl : l = [] := List.eq_nil_of_length_eq_zero hl
    have hnil := eql_nil w none 0 0
    go_enter Tryz.func56, Tryz.ntmps56
    go_wp2
    go_ret
    exact ⟨_, rfl, World.ownsRow_nil _ _ _ _, Below.refl _ _⟩
  | some ad =>
    have hb0 : Below w.heap.size w (w.alloc (.cells #[] 5)) := (Below.refl _ _).alloc (Nat.le_refl _) _
    have h0 := h.below hb0
    have ho0 : (w.alloc (.cells #[] 5)).ownsRow w.heap.size 5 1 (.slice (some ⟨w.heap.size, 0, none⟩) 0 0) 0 (bv []) := owns_row (l := []) rfl rfl (by decide) (Nat.le_refl _)
    have hsz := hb0.size
    have hnil := eql_nil w (some ad) len cap
    go_enter Tryz.func56, Tryz.ntmps56
    go_wp2_with (at_builtin; refine wpList_append_bts rfl (.tmp 5) (.tmp 6) rfl w.heap.size 0 _ [] rfl ho0 (some ad) len cap l rfl h0 (by omega) hsz ?_; intro v1 w1 ho1 hb1 _)
    rw [Nat.zero_add, List.nil_append] at ho1
    go_ret
    exact ⟨_, rfl, ho1, hb0.trans hb1⟩
set_option maxRecDepth 100000 in
/-- bytes of a constant, as they lie -/
theorem bts_const (w : World) (l : List Int) (hb : Byt l) (fr : Nat × Nat) (hm : l.length ≤ maxLen) : Bts (w.alloc (.cells (bv l).toArray 5 fr)) (some ⟨w.heap.size, 0, none⟩) l.length l.length l := by
  refine ⟨rfl, hb, Nat.le_refl _, hm, (fun hh => by cases hh), fun _ => ⟨w.heap.size, 0, rfl, by simp, fun i hi => ?_⟩⟩
  rw [Nat.zero_add, World.cell?_alloc_mark, List.getElem?_toArray]
  unfold bv; rw [List.getElem?_map, List.getElem?_eq_getElem hi, List.getD_eq_getElem?_getD, List.getElem?_eq_getElem hi]; rfl
set_option maxRecDepth 100000 in
theorem concat4 (b : Nat) (a0 a1 a2 a3 : Option Addr) (n0 n1 n2 n3 c0 c1 c2 c3 : Nat) (l0 l1 l2 l3 : List Int) (w : World) (h0 : w.cell? ⟨b, 0, none⟩ = some (.slice a0 n0 c0)) (h1 : w.cell? ⟨b, 1, none⟩ = some (.slice a1 n1 c1)) (h2 : w.cell? ⟨b, 2, none⟩ = some (.slice a2 n2 c2)) (h3 : w.cell? ⟨b, 3, none⟩ = some (.slice a3 n3 c3)) (hblt : b < w.heap.size)
    (B0 : Bts w a0 n0 c0 l0) (B1 : Bts w a1 n1 c1 l1) (B2 : Bts w a2 n2 c2 l2) (B3 : Bts w a3 n3 c3 l3) (hbd : n0 + n1 + n2 + n3 ≤ 1099511627776) :
    Calls Tryz.prog 107 #[.slice (some ⟨b, 0, none⟩) 4 4] w fun e w' => ∃ v, e = .returned v ∧ w'.ownsRow w.heap.size 5 1 v (n0 + n1 + n2 + n3) (bv (l0 ++ (l1 ++ (l2 ++ l3)))) ∧ Below w.heap.size w w' := by
  have hc : catL (fun i => if i = 0 then l0 else if i = 1 then l1 else if i = 2 then l2 else l3) 4 = l0 ++ (l1 ++ (l2 ++ l3)) := by simp [catL]
  have hl : (catL (fun i => if i = 0 then l0 else if i = 1 then l1 else if i = 2 then l2 else l3) 4).length = n0 + n1 + n2 + n3 := by rw [hc, List.length_append, List.length_append, List.length_append, B0.len_eq, B1.len_eq, B2.len_eq, B3.len_eq]; omega
  refine (concat_any 4 b (fun i => if i = 0 then a0 else if i = 1 then a1 else if i = 2 then a2 else a3) (fun i => if i = 0 then n0 else if i = 1 then n1 else if i = 2 then n2 else n3) (fun i => if i = 0 then c0 else if i = 1 then c1 else if i = 2 then c2 else c3) (fun i => if i = 0 then l0 else if i = 1 then l1 else if i = 2 then l2 else l3) w (fun i hi => ?_) hblt (fun i hi => ?_) (by rw [hl]; exact hbd) (by decide)).mono ?_
  · match i, hi with
    | 0, _ => exact h0
    | 1, _ => exact h1
    | 2, _ => exact h2
    | 3, _ => exact h3
  · match i, hi with
    | 0, _ => exact B0
    | 1, _ => exact B1
    | 2, _ => exact B2
    | 3, _ => exact B3
  · rintro e w' ⟨v, rfl, ho, hb⟩
    rw [hl, hc] at ho
    exact ⟨v, rfl, ho, hb⟩
set_option maxRecDepth 100000 in
set_option maxHeartbeats 1000000 in
theorem put8_any (seq : Int) (a : Option Addr) (len cap : Nat) (l : List Int) (w : World) (h0 : 0 ≤ seq) (h64 : seq ≤ 18446744073709551615) (h : Bts w a len cap l) :
    Calls Tryz.prog 75 #[.int .u64 seq, .slice a len cap] w fun e w' => ∃ v, e = .returned (.tuple #[v, .int .i64 (ptE seq l.length)]) ∧ w'.ownsRow w.heap.size 5 1 v (ptL seq l).length (bv (ptL seq l)) ∧ Below w.heap.size w w' := by
  have hl := h.len_eq
  have hmx := Nat.le_trans h.le_cap h.cap_le
  unfold maxLen at hmx
  by_cases hz : seq = 0
  · have HE := ptE_arg hz l.length
    have HL : Hid (ptL seq l = []) := ptL_no (by rw [HE]; decide)
    have HE' : Bx (ptE seq l.length = 2) := ⟨HE⟩
    clear HE hl
    go_enter Tryz.func75, Tryz.ntmps75
    go_wp2
    go_ret2
    exact ⟨_, by rw [HE'.out]; rfl, owns_empty _ _ _ HL.out, Below.refl _ _⟩
  · have hzb : (seq == 0) = false := by simpa using hz
    by_cases hbig : 16384 < len
    · have HE := ptE_big hz (n := l.length) (by omega)
      have HL : Hid (ptL seq l = []) := ptL_no (by rw [HE]; decide)
      have HE' : Bx (ptE seq l.length = 5) := ⟨HE⟩
      have hbig' : (16384 : Int) < (len : Int) := by omega
      clear HE hl
      go_enter Tryz.func75, Tryz.ntmps75
      go_wp2
      go_ret2
      exact ⟨_, by rw [HE'.out]; rfl, owns_empty _ _ _ HL.out, Below.refl _ _⟩
    · have HE := ptE_ok hz (n := l.length) (by omega)
      have HL : Bx (ptL seq l = headL len seq ++ (four (crcN (headL len seq)) ++ (l ++ four (crcN l)))) := ⟨by rw [ptL_ok HE, ← hl]; rfl⟩
      have HE' : Bx (ptE seq l.length = 0) := ⟨HE⟩
      have HLn : Bx ((ptL seq l).length = 12 + 4 + len + 4) := ⟨by rw [ptL_ok HE, frmL_len, hl]; omega⟩
      have hbig' : ¬ (16384 : Int) < (len : Int) := by omega
      have hcv : (len : Int) % 18446744073709551616 = (len : Int) := by omega
      have hhl := headL_byt len seq
      clear HE hl
      go_enter Tryz.func75, Tryz.ntmps75
      go_wp2_with fail
      refine (put_some (len : Int) 4 _ (by decide) (by decide) (by omega) (by omega)).mono ?_
      rintro e w1 ⟨v1, rfl, hown1, hb1⟩
      go_wp2_with fail
      refine (put_some seq 8 _ (by decide) (by decide) h0 h64).mono ?_
      rintro e w2 ⟨v2, rfl, hown2, hb2⟩
      have hown1b := owns_below hown1 hb2
      obtain ⟨a2, c2, rfl, hm2⟩ := Bts.of_owns hown2 (putL_byt _ _)
      have hb12 := bstep hb1 hb2
      have hsz := hb12.size
      clear hown1 hown2 hb1 hb2 hcv
      go_wp2_with (at_builtin; refine wpList_append_bts rfl (.tmp 15) (.tmp 17) rfl w.heap.size 4 _ (putL (len : Int) 4) rfl hown1b a2 8 c2 (putL seq 8) rfl hm2 (by decide) hsz ?_; intro v3 w3 hown3 hb3 _; obtain ⟨a3, c3, rfl, hm3⟩ := Bts.of_owns (l := headL len seq) hown3 hhl; have hb3' := hb12.trans hb3; clear hb12 hb3 hown3 hown1b hm2)
      refine (sumb_any a3 12 c3 (headL len seq) _ hm3).mono ?_
      rintro e w4 ⟨v4, rfl, hown4, hb4⟩
      obtain ⟨a4, c4, rfl, hm4⟩ := Bts.of_owns hown4 (four_byt _)
      have hm3b := hm3.below hb4
      have hb4' := bstep hb3' hb4
      have h4 := h.below hb4'
      clear hown4 hm3 hb3' hb4
      go_wp2_with fail
      refine (sumb_any a len cap l _ h4).mono ?_
      rintro e w5 ⟨v5, rfl, hown5, hb5⟩
      obtain ⟨a5, c5, rfl, hm5⟩ := Bts.of_owns hown5 (four_byt _)
      have hm3c := hm3b.below hb5
      have hm4c := hm4.below hb5
      have h5 := h4.below hb5
      have hb5' := bstep hb4' hb5
      clear hown5 hm3b hm4 h4 hb4' hb5
      go_wp2_with fail
      have hb6 : Below w5.heap.size w5 (w5.alloc (.cells #[.slice a3 12 c3, .slice a4 4 c4, .slice a len cap, .slice a5 4 c5] 46)) := (Below.refl _ _).alloc (Nat.le_refl _) _
      have hrow := heap_alloc_new w5 (.cells #[.slice a3 12 c3, .slice a4 4 c4, .slice a len cap, .slice a5 4 c5] 46)
      generalize w5.alloc (.cells #[.slice a3 12 c3, .slice a4 4 c4, .slice a len cap, .slice a5 4 c5] 46) = w6 at hb6 hrow ⊢
      refine (concat4 w5.heap.size a3 a4 a a5 12 4 len 4 c3 c4 cap c5 _ _ _ _ w6 (cell_of_row _ _ 0 _ _ (0, 0) hrow) (cell_of_row _ _ 1 _ _ (0, 0) hrow) (cell_of_row _ _ 2 _ _ (0, 0) hrow) (cell_of_row _ _ 3 _ _ (0, 0) hrow) (Array.getElem?_eq_some_iff.1 hrow).1 (hm3c.below hb6) (hm4c.below hb6) (h5.below hb6) (hm5.below hb6) (by omega)).mono ?_
      rintro e w7 ⟨v7, rfl, hown7, hb7⟩
      have hsz6 := (bstep hb5' hb6).size
      have hown8 := owns_base hown7 hsz6
      have hb8 := bstep (bstep hb5' hb6) hb7
      clear hown7 hb7 hm3c hm4c h5 hm5 hb5' hb6 hrow
      go_wp2
      go_ret2
      exact ⟨v7, by rw [HE'.out]; rfl, by rw [HLn.out, HL.out]; exact hown8, hb8⟩
set_option maxRecDepth 100000 in
set_option maxHeartbeats 1000000 in
theorem refput8_any (seq : Int) (a : Option Addr) (len cap : Nat) (l : List Int) (w : World) (h0 : 0 ≤ seq) (h64 : seq ≤ 18446744073709551615) (h : Bts w a len cap l) :
    Calls Tryz.prog 83 #[.int .u64 seq, .slice a len cap] w fun e w' => ∃ v, e = .returned (.tuple #[v, .int .i64 (ptE seq l.length)]) ∧ w'.ownsRow w.heap.size 5 1 v (ptL seq l).length (bv (ptL seq l)) ∧ Below w.heap.size w w' := by
  have hl := h.len_eq
  have hmx := Nat.le_trans h.le_cap h.cap_le
  unfold maxLen at hmx
  by_cases hz : seq = 0
  · have HE := ptE_arg hz l.length
    have HL : Hid (ptL seq l = []) := ptL_no (by rw [HE]; decide)
    have HE' : Bx (ptE seq l.length = 2) := ⟨HE⟩
    clear HE hl
    go_enter Tryz.func83, Tryz.ntmps83
    go_wp2
    go_ret2
    exact ⟨_, by rw [HE'.out]; rfl, owns_empty _ _ _ HL.out, Below.refl _ _⟩
  · have hzb : (seq == 0) = false := by simpa using hz
    by_cases hbig : 16384 < len
    · have HE := ptE_big hz (n := l.length) (by omega)
      have HL : Hid (ptL seq l = []) := ptL_no (by rw [HE]; decide)
      have HE' : Bx (ptE seq l.length = 5) := ⟨HE⟩
      have hbig' : (16384 : Int) < (len : Int) := by omega
      clear HE hl
      go_enter Tryz.func83, Tryz.ntmps83
      go_wp2
      go_ret2
      exact ⟨_, by rw [HE'.out]; rfl, owns_empty _ _ _ HL.out, Below.refl _ _⟩
    · have HE := ptE_ok hz (n := l.length) (by omega)
      have HL : Bx (ptL seq l = headL len seq ++ four (crcN (headL len seq)) ++ l ++ four (crcN l)) := ⟨by rw [ptL_ok HE, ← hl]; unfold frmL; simp⟩
      have HE' : Bx (ptE seq l.length = 0) := ⟨HE⟩
      have HLn : Bx ((ptL seq l).length = 12 + 4 + len + 4) := ⟨by rw [ptL_ok HE, frmL_len, hl]; omega⟩
      have hbig' : ¬ (16384 : Int) < (len : Int) := by omega
      have hcv : (len : Int) % 18446744073709551616 = (len : Int) := by omega
      have hhl := headL_byt len seq
      have hcl := crcN_lt l
      have hch := crcN_lt (headL len seq)
      clear HE hl
      go_enter Tryz.func83, Tryz.ntmps83
      go_wp2_with fail
      refine (refput_some (len : Int) 4 _ (by decide) (by decide) (by omega) (by omega)).mono ?_
      rintro e w1 ⟨v1, rfl, hown1, hb1⟩
      go_wp2_with fail
      refine (refput_some seq 8 _ (by decide) (by decide) h0 h64).mono ?_
      rintro e w2 ⟨v2, rfl, hown2, hb2⟩
      have hown1b := owns_below hown1 hb2
      obtain ⟨a2, c2, rfl, hm2⟩ := Bts.of_owns hown2 (putL_byt _ _)
      have hb12 := bstep hb1 hb2
      have hsz := hb12.size
      clear hown1 hown2 hb1 hb2 hcv
      go_wp2_with (at_builtin; refine wpList_append_bts rfl (.tmp 16) (.tmp 18) rfl w.heap.size 4 _ (putL (len : Int) 4) rfl hown1b a2 8 c2 (putL seq 8) rfl hm2 (by decide) hsz ?_; intro v3 w3 hown3 hb3 _; obtain ⟨a3, c3, rfl, hm3⟩ := Bts.of_owns (l := headL len seq) hown3 hhl; have hb3' := hb12.trans hb3; clear hb12 hb3 hown3 hown1b hm2)
      refine (copy_any a3 12 c3 (headL len seq) _ hm3 (by decide)).mono ?_
      rintro e w4 ⟨v4, rfl, hown4, hb4⟩
      have hm3b := hm3.below hb4
      have hb4' := bstep hb3' hb4
      have hown4b := owns_base hown4 hb3'.size
      clear hown4 hm3 hb3' hb4
      go_wp2_with fail
      refine (refcrc_any a3 12 c3 (headL len seq) _ hm3b).mono ?_
      rintro e w5 ⟨rfl, rfl⟩
      clear hm3b
      generalize hn4 : crcN (headL len seq) = n4 at hch ⊢
      have HN4 : Bx (crcN (headL len seq) = n4) := ⟨hn4⟩
      clear hn4
      go_wp2_with fail
      refine (four_any n4 _ hch).mono ?_
      rintro e w6 ⟨v6, rfl, hown6, hb6⟩
      obtain ⟨a6, c6, rfl, hm6⟩ := Bts.of_owns hown6 (four_byt _)
      have hown4c := owns_below hown4b hb6
      have hb6' := bstep hb4' hb6
      have hs6 := hb6'.size
      clear hown6 hown4b hb6 hb4'
      have h6 := h.below hb6'
      go_wp2_with (first | (at_builtin; refine wpList_append_bts rfl (.tmp 21) (.tmp 24) rfl w.heap.size 12 _ (headL len seq) rfl hown4c a6 4 c6 (four n4) rfl hm6 (by decide) hs6 ?_; intro v7 w7 hown7 hb7 _; have hb7' := hb6'.trans hb7; have h7 := h.below hb7'; have hs7 := hb7'.size; clear hb7 hb6' hown4c hm6 h6 hs6) | (at_builtin; refine wpList_append_bts rfl (.tmp 26) (.tmp 27) rfl w.heap.size (12 + 4) _ (headL len seq ++ four n4) rfl hown7 a len cap l rfl h7 (by omega) hs7 ?_; intro v8 w8 hown8 hb8 _; have hb8' := hb7'.trans hb8; have h8 := h.below hb8'; clear hb8 hb7' hown7 h7 hs7))
      refine (refcrc_any a len cap l _ h8).mono ?_
      rintro e w9 ⟨rfl, rfl⟩
      clear h8
      generalize hn5 : crcN l = n5 at hcl ⊢
      have HN5 : Bx (crcN l = n5) := ⟨hn5⟩
      clear hn5
      go_wp2_with fail
      refine (four_any n5 _ hcl).mono ?_
      rintro e w10 ⟨v10, rfl, hown10, hb10⟩
      obtain ⟨a10, c10, rfl, hm10⟩ := Bts.of_owns hown10 (four_byt _)
      have hown8c := owns_below hown8 hb10
      have hb10' := bstep hb8' hb10
      have hs10 := hb10'.size
      clear hown10 hown8 hb10 hb8'
      go_wp2_with (at_builtin; refine wpList_append_bts rfl (.tmp 29) (.tmp 32) rfl w.heap.size (12 + 4 + len) _ (headL len seq ++ four n4 ++ l) rfl hown8c a10 4 c10 (four n5) rfl hm10 (by omega) hs10 ?_; intro v11 w11 hown11 hb11 _; have hb11' := hb10'.trans hb11; clear hb11 hb10' hown8c hm10 hs10)
      go_ret2
      exact ⟨v11, by rw [HE'.out]; rfl, by rw [HLn.out, HL.out, HN4.out, HN5.out]; exact hown11, hb11'⟩
end Go.Proofs.YtjnjokbdoendkaaGreat
