/- A machine is made. -/
import Derived.Test.YtbjeeefkbmdmfaaVDo
import Derived.Test.YtbjeeefkbmdmfaaCMeas
import Derived.Test.YtbjeeefkbmdmfaaInsIn
import Derived.Laws.IdiomStrings
import Derived.Lib.Strings
namespace Go.Proofs.Ytbjeeefkbmdmfaa
open Go.RowKit
set_option linter.unusedVariables false

set_option maxRecDepth 100000 in
theorem Try.infoV : (Try.prog.info? 77).map (fun i => (i.zero, i.size, i.bytes)) = some (some (.agg #[.int .i64 0, .int .i64 0]), 2, 16) := by kernel_rfl
set_option maxRecDepth 100000 in
theorem vnil (w : World) (a : Option Addr) (l c : Nat) : (binOp .eql 22 (.slice a l c) (.slice none 0 0)).run Try.prog w = .ok (.bool a.isNone) w := by
  simp only [binOp]
  simp [run_equal_slice_nil w _ _ a l c Try.underlying22]
set_option maxHeartbeats 1000000 in
theorem vclone_any (ad : Addr) (len cap : Nat) (l : List Ic) (w : World) (h : Ics w (some ad) len cap l) (hs : len ≤ 1000000) :
    Calls Try.prog 49 #[.slice (some ad) len cap] w fun e w' => ∃ v, e = .returned v ∧ w'.ownsRow w.heap.size 77 2 v len (l.flatMap icC) ∧ Below w.heap.size w w' := by
  obtain ⟨i0, hi, hz0, hz1, hz2⟩ := info_parts Try.infoV
  have hb0 : Below w.heap.size w (w.alloc (.cells #[] 77)) := (Below.refl _ _).alloc (Nat.le_refl _) _
  have HCE := Bx.mk ((h.below hb0).cells icC_len rfl)
  have HO0 : Bx ((w.alloc (.cells #[] 77)).ownsRow w.heap.size 77 2 (.slice (some ⟨w.heap.size, 0, none⟩) 0 0) 0 []) := ⟨World.ownsRow_lit w #[] 0 (Nat.le_refl _) (by unfold maxLen; omega) rfl⟩
  have HFL : Bx ((l.flatMap icC).length = len * 2) := ⟨by rw [flatE_len icC_len, h.len_eq]⟩
  have HON := Bx.mk (flatE_one icC_one l)
  have HSZ := Bx.mk hb0.size
  have HB0 := Bx.mk hb0
  have hnil := vnil w (some ad) len cap
  generalize l.flatMap icC = ne at HCE HFL HON
  clear h hb0
  go_enter Try.func49, Try.ntmps49
  go_wp2_with (at_builtin; refine wpList_append_own _ rfl _ _ 22 rfl w.heap.size 77 i0 (.agg #[.int .i64 0, .int .i64 0]) 2 16 Try.underlying22 hi hz0 hz1 hz2 rfl (by decide) _ 0 [] rfl HO0.out ad len cap ne rfl HFL.out HCE.out HON.out ?c3 ?c4 HSZ.out ?_)
  case c3 => unfold maxLen; omega
  case c4 => omega
  intro v1 w1 ho1 hg1 _
  have HO1 := Bx.mk ho1
  have HB1 : Bx (Below w.heap.size w w1) := ⟨HB0.out.grown hg1 HSZ.out (by intro k hk; cases hk; exact Nat.le_refl _)⟩
  clear ho1 hg1 hi hz0 hz1 hz2
  go_wp2_with fail
  go_ret
  exact ⟨_, rfl, HO1.out, HB1.out⟩
/-- a machine in memory -/
structure Mc (w : World) (gm gc cc : Nat) (l : List Ic) : Prop where
  row : w.heap[gm]? = some (.cells #[.slice (some ⟨gc, 0, none⟩) l.length cc] 95 (0, 0))
  ics : Ics w (some ⟨gc, 0, none⟩) l.length cc l
  ok : (thr l).2.2 = 0
  ln : 1 ≤ l.length ∧ l.length ≤ 200
section
variable {w w' : World} {gm gc cc : Nat} {l : List Ic}
set_option maxRecDepth 100000 in
theorem Mc.lt (h : Mc w gm gc cc l) : gm < w.heap.size ∧ gc < w.heap.size := by
  refine ⟨(Array.getElem?_eq_some_iff.1 h.row).1, ?_⟩
  obtain ⟨b, off, e, hlt, _⟩ := h.ics.spot h.ln.1
  cases e; exact hlt
set_option maxRecDepth 100000 in
theorem Mc.keep (h : Mc w gm gc cc l) (h1 : w'.heap[gm]? = w.heap[gm]?) (h2 : w'.heap[gc]? = w.heap[gc]?) (hs : w.heap.size ≤ w'.heap.size) : Mc w' gm gc cc l :=
  ⟨h1.trans h.row, h.ics.keep (fun p e _ => by cases e; exact h2) hs, h.ok, h.ln⟩
set_option maxRecDepth 100000 in
theorem Mc.below (h : Mc w gm gc cc l) (hb : Below w.heap.size w w') : Mc w' gm gc cc l := h.keep (hb.block gm h.lt.1) (hb.block gc h.lt.2) hb.size
set_option maxRecDepth 100000 in
theorem Mc.kept {own : Nat → Prop} (h : Mc w gm gc cc l) (hb : Kept own w w') (h1 : ¬ own gm) (h2 : ¬ own gc) : Mc w' gm gc cc l := h.keep (hb.block gm h.lt.1 h1) (hb.block gc h.lt.2 h2) hb.size
set_option maxRecDepth 100000 in
theorem Mc.cell (h : Mc w gm gc cc l) : w.cell? ⟨gm, 0, none⟩ = some (.slice (some ⟨gc, 0, none⟩) l.length cc) := cell_of_row _ gm 0 _ _ (0, 0) h.row
end
/-- what New answers -/
def NwP (l : List Ic) (w : World) (e : Ending) (w' : World) : Prop := ∃ gm gc cc, e = .returned (.tuple #[.pointer (some ⟨gm, 0, none⟩), .int .i64 0]) ∧ Mc w' gm gc cc l ∧ w.heap.size ≤ gm ∧ w.heap.size ≤ gc ∧ Below w.heap.size w w'
set_option maxHeartbeats 1000000 in
theorem vnew_no (a : Option Addr) (len cap : Nat) (l : List Ic) (w : World) (h : Ics w a len cap l) (he : (thr l).2.2 ≠ 0) :
    Calls Try.prog 28 #[.slice a len cap] w fun e w' => e = .returned (.tuple #[.pointer none, .int .i64 (thr l).2.2]) ∧ Below w.heap.size w w' := by
  have hq : ((thr l).2.2 != 0) = true := by simpa using he
  clear he
  go_enter Try.func28, Try.ntmps28
  go_wp2_with fail
  refine (check15_any a len cap l w h).mono ?_
  rintro e w1 ⟨rfl, hb1⟩
  have HB1 := Bx.mk hb1
  obtain ⟨r, HR⟩ : ∃ r, Bx ((thr l).2.2 = r) := ⟨_, ⟨rfl⟩⟩
  rw [HR.out] at hq ⊢
  generalize (thr l).2.1 = p
  clear hb1
  go_wp2_with fail
  go_ret2
  exact ⟨by rw [HR.out]; rfl, HB1.out⟩
set_option maxHeartbeats 1000000 in
theorem vnew_yes (a : Option Addr) (len cap : Nat) (l : List Ic) (w : World) (h : Ics w a len cap l) (he : (thr l).2.2 = 0) :
    Calls Try.prog 28 #[.slice a len cap] w (NwP l w) := by
  obtain ⟨hl1, hl2, _⟩ := thr_flow he
  have HLEN : Bx (l.length = len) := ⟨h.len_eq⟩
  have hn : 1 ≤ len ∧ len ≤ 200 := by rw [← HLEN.out]; exact ⟨hl1, hl2⟩
  have HOK := Bx.mk he
  have H := Bx.mk h
  clear hl1 hl2 h
  go_enter Try.func28, Try.ntmps28
  go_wp2_with fail
  refine (check15_any a len cap l w H.out).mono ?_
  rintro e w1 ⟨rfl, hb1⟩
  have HB1 := Bx.mk hb1
  rw [he]
  generalize (thr l).2.1 = p
  obtain ⟨b, off, rfl, _, _⟩ := H.out.spot (by omega)
  have H1 := Bx.mk (H.out.below hb1)
  clear hb1 he
  go_wp2_with fail
  refine (vclone_any _ len cap l w1 H1.out (by omega)).mono ?_
  rintro e w2 ⟨v, rfl, ho, hb2⟩
  obtain ⟨gc, cc, rfl, hgc, _⟩ := owns_form ho hn.1
  obtain ⟨a2, c2, e2, hI⟩ := Ls.of_owns icC_len ho HLEN.out
  cases e2
  have HI := Bx.mk hI
  have HB2 := Bx.mk (bstep HB1.out hb2)
  have HGC : Bx (w.heap.size ≤ gc) := ⟨Nat.le_trans HB1.out.size hgc⟩
  have HGM := Bx.mk HB2.out.size
  have HB3 : Bx (Below w.heap.size w (w2.alloc (.cells #[.slice (some ⟨gc, 0, none⟩) len cc] 95))) := ⟨bstep HB2.out ((Below.refl _ _).alloc (Nat.le_refl _) _)⟩
  have HM : Bx (Mc (w2.alloc (.cells #[.slice (some ⟨gc, 0, none⟩) len cc] 95)) w2.heap.size gc cc l) := ⟨⟨by rw [HLEN.out]; exact heap_alloc_new _ _, by rw [HLEN.out]; exact hI.below ((Below.refl _ _).alloc (Nat.le_refl _) _), HOK.out, by rw [HLEN.out]; exact hn⟩⟩
  clear ho hb2 hI hgc
  go_wp2_with fail
  go_ret2
  exact ⟨_, _, _, rfl, HM.out, HGM.out, HGC.out, HB3.out⟩
end Go.Proofs.Ytbjeeefkbmdmfaa
