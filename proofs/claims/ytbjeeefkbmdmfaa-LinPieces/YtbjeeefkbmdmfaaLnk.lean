/- A task behind so many tries. No walk. The places by which a task came to where it is; its end. A task looks for the next try that is due, or ends. -/
import Derived.Test.YtbjeeefkbmdmfaaLnj
import Derived.Laws.AppendOwn
namespace Go.Proofs.Ytbjeeefkbmdmfaa
open Go.RowKit
set_option linter.unusedVariables false
open Go.MapKept Go.Maps

/-- the search that a task is -/
abbrev tS (D : TD) : Sr Po := srO D.l D.fu D.ops
abbrev tP (D : TD) : Po := po0 D.ops.length
abbrev tB (D : TD) : Nat := D.bu.toNat
abbrev tR (D : TD) : Rs Po := vdR D.l D.fu D.bu D.ops
/-- what holds of its frames -/
structure TOk (D : TD) (B : List Fr) (f : Fr) (M : List Ps) (t : Nat) : Prop where
  pm : ∀ y ∈ M, PsK D.n y
  pb : ∀ y ∈ B, PsK D.n y.q ∧ y.k < D.n ∧ (tS D).full (y.p (tS D).n) = false
  pf : PsK D.n f.q
  kf : f.k ≤ D.n
  nb : B.length ≤ t
/-- the own block is the same, or none, or new -/
def At3 (w : World) (v v' : Value) : Prop := ∀ j, v'.ownBlock = some j → v.ownBlock = some j ∨ w.heap.size ≤ j
set_option maxRecDepth 100000 in
theorem At3.refl (w : World) (v : Value) : At3 w v v := fun _ h => .inl h
set_option maxRecDepth 100000 in
theorem At3.of {w : World} {v v' : Value} (h : At2 w v v') : At3 w v v' := fun j e => by
  rcases h with h | ⟨k, h, hk⟩
  · exact .inl (h ▸ e)
  · rw [h] at e; cases e; exact .inr hk
set_option maxRecDepth 100000 in
theorem At3.trans {w w' : World} {a b c : Value} (h : At3 w a b) (k : At3 w' b c) (hs : w.heap.size ≤ w'.heap.size) : At3 w a c := fun j e => by
  rcases k j e with h1 | h1
  · exact h j h1
  · exact .inr (Nat.le_trans hs h1)
set_option maxRecDepth 100000 in
theorem kept_on {D : TD} {w w' w'' : World} {v v' : Value} (h : Kept (ownT D v) w w') (k : Kept (ownT D v') w' w'') (ha : At3 w v v') : Kept (ownT D v) w w'' := h.trans k fun j e => by
  rcases e with e | e | e
  · exact .inl (.inl e)
  · exact .inl (.inr (.inl e))
  · rcases ha j e with h1 | h1
    · exact .inl (.inr (.inr h1))
    · exact .inr h1
/-- how a task stands where the search stands at X -/
structure StP (D : TD) (w : World) (vF : Value) (X : Ss Po) (t : Nat) (F : List Fr) (M : List Ps) (kd : Int) (vO : Value) (o : List Nat) : Prop where
  tm : Tm D w vF F M t kd vO o
  st : (X.ov = 0 ∧ (t : Int) ≠ D.bu ∧ kd = 0 ∧ o = [] ∧ ∃ B f, F = B ++ [f] ∧ Run (tS D) X B f M t ∧ TOk D B f M t) ∨
    (F = [] ∧ (X.ov ≠ 0 ∧ kd = (X.ov : Nat) ∧ o = X.o ∨ X.ov = 0 ∧ (t : Int) = D.bu ∧ kd = 4 ∧ o = []))
def StQ (D : TD) (w : World) (vF : Value) (X : Ss Po) (t : Nat) (w0 : World) (v0 : Value) : Prop := (∃ F M kd vO o, StP D w vF X t F M kd vO o) ∧ Kept (ownT D v0) w0 w ∧ At3 w0 v0 vF
/-- a task behind k tries -/
structure TaT (D : TD) (w : World) (vF : Value) (k : Nat) (F : List Fr) (M : List Ps) (kd : Int) (vO : Value) (o : List Nat) : Prop where
  tm : Tm D w vF F M k kd vO o
  tk : Tk (tS D) (tP D) (tB D) k
  st : (stopS (tS D) (tP D) (tB D) k = false ∧ kd = 0 ∧ o = [] ∧ ∃ B f, F = B ++ [f] ∧ Run (tS D) (sqS (tS D) (tP D) k) B f M k ∧ TOk D B f M k) ∨
    (stopS (tS D) (tP D) (tB D) k = true ∧ F = [] ∧ kd = (vdK (tR D) : Nat) ∧ o = (tR D).o ∧ k = (tR D).t)
set_option maxRecDepth 100000 in
theorem stop_no {D : TD} (hk : TDK D) {k : Nat} (h : (sqS (tS D) (tP D) k).ov = 0) (hb : (k : Int) ≠ D.bu) : stopS (tS D) (tP D) (tB D) k = false := by
  unfold stopS
  rw [decide_eq_false (by rw [h]; exact fun e => e rfl), decide_eq_false (by have := hk.bu; unfold tB; omega)]; rfl
set_option maxRecDepth 100000 in
theorem ta_of {D : TD} {w : World} {vF : Value} {k : Nat} {F : List Fr} {M : List Ps} {kd : Int} {vO : Value} {o : List Nat} (hk : TDK D) (htk : Tk (tS D) (tP D) (tB D) k) (h : StP D w vF (sqS (tS D) (tP D) k) k F M kd vO o) : TaT D w vF k F M kd vO o := by
  refine ⟨h.tm, htk, ?_⟩
  have hbu := hk.bu
  rcases h.st with ⟨h1, h2, h3, h4, h5⟩ | ⟨h1, h2⟩
  · exact .inl ⟨stop_no hk h1 h2, h3, h4, h5⟩
  · right
    have hs : stopS (tS D) (tP D) (tB D) k = true := by
      unfold stopS
      rcases h2 with ⟨h3, _⟩ | ⟨_, h3, _⟩
      · rw [decide_eq_true h3]; rfl
      · rw [decide_eq_true (show k = tB D by unfold tB; omega), Bool.or_true]
    obtain ⟨ht, hq⟩ := tk_told srO_ok htk hs
    refine ⟨hs, h1, ?_, ?_, ht.symm⟩
    · rcases h2 with ⟨h3, h4, h5⟩ | ⟨h3, _, h4, h5⟩ <;> rcases hq with ⟨q1, q2, q3⟩ | ⟨q1, _, q2, q3⟩
      · rw [h4]; exact congrArg _ q2.symm
      · exact absurd q1 h3
      · exact absurd h3 q1
      · rw [h4]; exact congrArg (fun z : Nat => (z : Int)) q2.symm
    · rcases h2 with ⟨h3, h4, h5⟩ | ⟨h3, _, h4, h5⟩ <;> rcases hq with ⟨q1, q2, q3⟩ | ⟨q1, _, q2, q3⟩
      · rw [h5]; exact q3.symm
      · exact absurd q1 h3
      · exact absurd h3 q1
      · rw [h5]; exact q3.symm
section
variable {D : TD} {w w' : World} {vF : Value} {k : Nat} {F : List Fr} {M : List Ps} {kd : Int} {vO : Value} {o : List Nat}
set_option maxRecDepth 100000 in
theorem vdk_pos {P : Type} (r : Rs P) : vdK r ≠ 0 := by unfold vdK; split <;> omega
set_option maxRecDepth 100000 in
theorem TaT.runs (h : TaT D w vF k F M kd vO o) : decide (F ≠ []) = !stopS (tS D) (tP D) (tB D) k := by
  rcases h.st with ⟨h1, _, _, B, f, h2, _⟩ | ⟨h1, h2, _⟩
  · rw [h1, h2]; exact decide_eq_true (by simp)
  · rw [h1, h2]; rfl
set_option maxRecDepth 100000 in
theorem TaT.over (h : TaT D w vF k F M kd vO o) : decide (kd ≠ 0) = stopS (tS D) (tP D) (tB D) k := by
  rcases h.st with ⟨h1, h2, _⟩ | ⟨h1, _, h2, _⟩
  · rw [h1, h2]; rfl
  · rw [h1, h2]; exact decide_eq_true (by have := vdk_pos (tR D); omega)
set_option maxRecDepth 100000 in
theorem TaT.le (h : TaT D w vF k F M kd vO o) (hk : TDK D) : (k : Int) ≤ D.bu := by have := h.tk.1; have := hk.bu; unfold tB at *; omega
set_option maxRecDepth 100000 in
theorem TaT.below (h : TaT D w vF k F M kd vO o) (hb : Below w.heap.size w w') : TaT D w' vF k F M kd vO o := ⟨h.tm.below hb, h.tk, h.st⟩
end
end Go.Proofs.Ytbjeeefkbmdmfaa
namespace Go.Proofs.Ytbjeeefkbmdmfaa
open Go.RowKit
set_option linter.unusedVariables false
open Go.MapKept Go.Maps

set_option maxRecDepth 100000 in
theorem Try.infoT18 : (Try.prog.info? 3).map (fun i => (i.zero, i.size, i.bytes)) = some (some (.int .i64 0), 1, 8) := by kernel_rfl
section
variable {D : TD} {w w' : World} {vF : Value} {F B : List Fr} {f : Fr} {M : List Ps} {t : Nat} {kd : Int} {vO : Value} {o : List Nat} {gF cF n : Nat}
set_option maxRecDepth 100000 in
/-- the cells of a frame -/
theorem Tm.frAt (h : Tm D w (.slice (some ⟨gF, 0, none⟩) n cF) F M t kd vO o) {i : Nat} (hi : i < F.length) : ∃ y, F[i]? = some y ∧
    w.cell? ⟨gF, i * 6, none⟩ = some (.int .u64 (y.x : Nat)) ∧ w.cell? ⟨gF, i * 6 + 1, none⟩ = some (.int .i64 (y.S.getD 0 0)) ∧ w.cell? ⟨gF, i * 6 + 2, none⟩ = some (.int .i64 (y.S.getD 1 0)) ∧ w.cell? ⟨gF, i * 6 + 3, none⟩ = some (.int .i64 (y.S.getD 2 0)) ∧ w.cell? ⟨gF, i * 6 + 4, none⟩ = some (.int .i64 (y.S.getD 3 0)) ∧ w.cell? ⟨gF, i * 6 + 5, none⟩ = some (.int .i64 (y.k : Nat)) := by
  have h1 := h.fr
  have hc : ∀ j, j < 6 → w.cell? ⟨gF, i * 6 + j, none⟩ = (frC F[i])[j]? := fun j hj => by
    have hF : F.length = n := by
      rcases h1.2 with ⟨e, _⟩ | ⟨g', c', cur, e, _⟩
      · cases e
      · cases e; rfl
    subst hF
    rw [World.ownsRow.cellAt h1 (i * 6 + j) (by omega), flatE_get frC_len F i j hi hj]
  exact ⟨F[i], List.getElem?_eq_getElem hi, hc 0 (by decide), hc 1 (by decide), hc 2 (by decide), hc 3 (by decide), hc 4 (by decide), hc 5 (by decide)⟩
set_option maxRecDepth 100000 in
theorem way_next {B C : List Fr} {y : Fr} {j : Nat} (hj : j < B.length) (h : (B ++ C)[j]? = some y) : (orI ((B.take (j + 1)).map Fr.k)).flatMap ivC = (orI ((B.take j).map Fr.k)).flatMap ivC ++ [.int .i64 (y.k : Nat)] := by
  rw [List.getElem?_append_left hj] at h
  rw [List.take_add_one, h]
  simp [orI, ivC]
set_option maxHeartbeats 4000000 in
set_option maxRecDepth 100000 in
theorem way_any (h : Tm D w (.slice (some ⟨gF, 0, none⟩) (B.length + 1) cF) (B ++ [f]) M t kd vO o) (hB : B.length ≤ 1073741824) :
    Calls Try.prog 68 #[.pointer (some ⟨D.g, 0, none⟩)] w fun e w' => ∃ v, e = .returned v ∧ w'.ownsRow w.heap.size 3 1 v B.length ((orI (B.map Fr.k)).flatMap ivC) ∧ Below w.heap.size w w' := by
  obtain ⟨_, _, _, _, _, _, _, c7, _⟩ := h.cells
  have hcap : ((B.length : Nat) : Int) ≤ (cF : Int) := by
    obtain ⟨_, _, e, _, h1, _⟩ := h.form
    cases e; omega
  have H := Bx.mk h
  obtain ⟨L, HL⟩ : ∃ L : Nat, Bx (B.length = L) := ⟨_, ⟨rfl⟩⟩
  rw [HL.out] at c7 hB hcap ⊢
  have hw : IntKind.i64.wrap (((L + 1 : Nat) : Int) - 1) = (L : Int) := by rw [show ((L + 1 : Nat) : Int) - 1 = (L : Int) by omega]; exact IntWalk.i64_in _ (by omega)
  clear h
  go_enter Try.func68, Try.ntmps68
  go_upto_region 2 with fail
  go_quiet (fail)
  have HB0 : Bx (Below w.heap.size w (w.drewN nq)) := ⟨below_drewN (Below.refl _ _) _⟩
  generalize w.drewN nq = w0 at HB0 ⊢
  go_wp2_with fail
  go_loopw [3, 18] (fun l i wr => ∃ j : Nat, j ≤ L ∧ i = .int .i64 (j : Nat) ∧ Bx (wr.ownsRow w.heap.size 3 1 l j ((orI ((B.take j).map Fr.k)).flatMap ivC)) ∧ Bx (Below w.heap.size w wr)) (fun _ i _ => L - (intOf i).toNat)
  case atStart => exact ⟨0, Nat.zero_le _, rfl, ⟨World.ownsRow_nil _ _ _ _⟩, HB0⟩
  case round =>
    obtain ⟨j, hjL, rfl, HO, HB⟩ := hrel
    obtain ⟨aL, cL, rfl⟩ := own_sl18 HO.out
    clear HB0
    by_cases hlt : j < L
    · have hjI : (j : Int) < (L : Int) := by omega
      obtain ⟨y, hy, x0, x1, x2, x3, x4, x5⟩ := (H.out.below HB.out).frAt (i := j) (by rw [List.length_append, HL.out]; simp; omega)
      have HNX := Bx.mk (way_next (by rw [HL.out]; exact hlt) hy)
      generalize y.S.getD 0 0 = s0 at x1
      generalize y.S.getD 1 0 = s1 at x2
      generalize y.S.getD 2 0 = s2 at x3
      generalize y.S.getD 3 0 = s3 at x4
      generalize y.x = yx at x0
      generalize y.k = yk at x5 HNX
      have hb5 : Below wr.heap.size wr (wr.alloc (.cells #[.int .u64 (yx : Nat), .int .i64 s0, .int .i64 s1, .int .i64 s2, .int .i64 s3, .int .i64 (yk : Nat)] 100)) := (Below.refl _ _).alloc (Nat.le_refl _) _
      have HR5 := Bx.mk (heap_alloc_new wr (.cells #[.int .u64 (yx : Nat), .int .i64 s0, .int .i64 s1, .int .i64 s2, .int .i64 s3, .int .i64 (yk : Nat)] 100))
      have HO5 := Bx.mk (owns_below HO.out hb5)
      have HB5 := Bx.mk (bstep HB.out hb5)
      have HLO : Bx (∀ k, (Value.slice aL j cL).ownBlock = some k → w.heap.size ≤ k) := ⟨fun k e => (HO.out.lt k e).1⟩
      obtain ⟨i0, hi, hz0, hz1, hz2⟩ := info_parts Try.infoT18
      clear hb5 HO hy
      go_upto_region 5 with fail
      generalize wr.alloc (.cells #[.int .u64 (yx : Nat), .int .i64 s0, .int .i64 s1, .int .i64 s2, .int .i64 s3, .int .i64 (yk : Nat)] 100) = w5 at HR5 HO5 HB5 ⊢
      generalize wr.heap.size = g5 at HR5 ⊢
      clear x0 x1 x2 x3 x4 x5
      have y5 := cell_of_row _ g5 5 _ _ (0, 0) HR5.out
      have hbA : Below w5.heap.size w5 (w5.alloc (.cells #[.int .i64 (yk : Nat)] 3)) := (Below.refl _ _).alloc (Nat.le_refl _) _
      have HOA := Bx.mk (owns_below HO5.out hbA)
      have HBA := Bx.mk (bstep HB5.out hbA)
      have HSZ := Bx.mk HBA.out.size
      have HNW := Bx.mk (World.news_of_block (heap_alloc_new w5 (.cells #[.int .i64 (yk : Nat)] 3)))
      clear hbA HO5 HB5
      go_wp2_with (at_builtin; refine wpList_append_own _ rfl _ _ 37 rfl w.heap.size 3 i0 (.int .i64 0) 1 8 Try.underlying37 hi hz0 hz1 hz2 rfl (by decide) _ j ((orI ((B.take j).map Fr.k)).flatMap ivC) rfl HOA.out ⟨w5.heap.size, 0, none⟩ 1 1 [.int .i64 (yk : Nat)] rfl rfl HNW.out (by simp [Value.oneCell']) (by unfold maxLen; omega) (by omega) HSZ.out ?_)
      intro v1 w1 ho1 hg1 _
      have HO1 : Bx (w1.ownsRow w.heap.size 3 1 v1 (j + 1) ((orI ((B.take (j + 1)).map Fr.k)).flatMap ivC)) := ⟨by rw [HNX.out, List.map_take]; exact ho1⟩
      have HB1 := Bx.mk (HBA.out.grown hg1 HSZ.out HLO.out)
      clear ho1 hg1 hi hz0 hz1 hz2 HOA HBA HSZ HNW HLO y5 HR5
      go_wp2_with fail
      go_roundw
      case rel => exact ⟨j + 1, by omega, by go_num, HO1, HB1⟩
      case measure => simp [intOf]; omega
    · have hjI : ¬ (j : Int) < (L : Int) := by omega
      obtain rfl : j = L := by omega
      have HO1 : Bx (wr.ownsRow w.heap.size 3 1 (.slice aL j cL) j ((orI (B.map Fr.k)).flatMap ivC)) := ⟨by
        have := HO.out
        rwa [List.take_of_length_le (by rw [HL.out]; exact Nat.le_refl _)] at this⟩
      go_wp2_with fail
      go_ret
      exact ⟨_, rfl, HO1.out, HB.out⟩
set_option maxRecDepth 100000 in
/-- a task is over -/
theorem Tm.off (h : Tm D w vF F M t kd vO o) (hk : TDK D) : Tm D (w.setCell ⟨D.g, 7, none⟩ (.slice none 0 0)) (.slice none 0 0) [] M t kd vO o :=
  h.frames hk (World.ownsRow_nil _ _ _ _)
set_option maxHeartbeats 4000000 in
set_option maxRecDepth 100000 in
theorem end_not (h : Tm D w vF F M t kd vO o) (hk : TDK D) (k : Int) (hne : k ≠ 1) :
    Calls Try.prog 55 #[.pointer (some ⟨D.g, 0, none⟩), .int .i64 k] w fun e w' => e = .returned (.tuple #[]) ∧ Tm D w' (.slice none 0 0) [] [] t k vO o ∧ Kept (ownT D vF) w w' := by
  have hb : (k == 1) = false := beq_false_of_ne hne
  obtain ⟨_, _, _, _, _, _, _, _, _, c9, _⟩ := h.cells
  have f9 := h.froz 9
  have h1 := h.kind hk k
  have c7 := h1.cells.2.2.2.2.2.2.2.1
  have f7 := h1.froz 7
  have h2 := h1.off hk
  have c6 := h2.cells.2.2.2.2.2.2.1
  obtain ⟨es, ck, hm, hkm⟩ := h2.mp
  obtain ⟨ck', hcl, hkm'⟩ := km_clear (P := Try.prog) (k := 72) (V := .agg #[]) (t := 64) (e := 98) (ty := 0) Try.underlying64 hm
  have HT := Bx.mk (h2.met hk (M' := []) hkm')
  have HK : Bx (Kept (ownT D vF) w (setK ((w.setCell ⟨D.g, 9, none⟩ (.int .i64 k)).setCell ⟨D.g, 7, none⟩ (.slice none 0 0)) D.gM #[] ck')) := ⟨setK_kept (((Kept.refl _ _).setCell (g := D.g) (.inl (.inl rfl)) _ _).setCell (g := D.g) (.inl (.inl rfl)) _ _) _ _ (.inl (.inr (.inl rfl)))⟩
  clear h hk h1 h2 hm hkm hkm' hne
  go_enter Try.func55, Try.ntmps55
  go_wp2_with fail
  go_end0
  exact ⟨rfl, HT.out, HK.out⟩
set_option maxHeartbeats 4000000 in
set_option maxRecDepth 100000 in
theorem end_fits (h : Tm D w (.slice (some ⟨gF, 0, none⟩) (B.length + 1) cF) (B ++ [f]) M t kd vO o) (hk : TDK D) (hB : B.length ≤ 1073741824) :
    Calls Try.prog 55 #[.pointer (some ⟨D.g, 0, none⟩), .int .i64 1] w fun e w' => ∃ vO', e = .returned (.tuple #[]) ∧ Tm D w' (.slice none 0 0) [] [] t 1 vO' (B.map Fr.k) ∧ Kept (ownT D (.slice (some ⟨gF, 0, none⟩) (B.length + 1) cF)) w w' := by
  obtain ⟨_, _, _, _, _, _, _, _, _, c9, _⟩ := h.cells
  have f9 := h.froz 9
  have HBL := Bx.mk hB
  have HDK := Bx.mk hk
  have HT1 := Bx.mk (h.kind hk 1)
  have HK1 : Bx (Kept (ownT D (.slice (some ⟨gF, 0, none⟩) (B.length + 1) cF)) w (w.setCell ⟨D.g, 9, none⟩ (.int .i64 1))) := ⟨(Kept.refl _ _).setCell (g := D.g) (.inl (.inl rfl)) _ _⟩
  clear h hk hB
  go_enter Try.func55, Try.ntmps55
  go_wp2_with fail
  generalize w.setCell ⟨D.g, 9, none⟩ (.int .i64 1) = w1 at HT1 HK1 ⊢
  clear c9 f9
  refine (way_any HT1.out HBL.out).mono ?_
  rintro e w2 ⟨v, rfl, ho, hb⟩
  obtain ⟨aV, cV, rfl⟩ := own_sl18 ho
  have h2 := HT1.out.below hb
  have c10 := h2.cells.2.2.2.2.2.2.2.2.2.2
  have c6 := h2.cells.2.2.2.2.2.2.1
  have c7 := h2.cells.2.2.2.2.2.2.2.1
  have f7 := h2.froz 7
  have f10 := h2.froz 10
  have hlen : (B.map Fr.k).length = B.length := List.length_map ..
  have ho2 : w2.ownsRow (D.g + 1) 3 1 (.slice aV B.length cV) (B.map Fr.k).length ((orI (B.map Fr.k)).flatMap ivC) := by rw [hlen]; exact owns_base ho (Nat.succ_le_of_lt HT1.out.lt)
  have h3 := h2.order HDK.out ho2
  have hk3 := (HK1.out.below hb).setCell (g := D.g) (.inl (.inl rfl)) 10 (.slice aV B.length cV)
  have h4 := h3.off HDK.out
  obtain ⟨es, ck, hm, hkm⟩ := h4.mp
  obtain ⟨ck', hcl, hkm'⟩ := km_clear (P := Try.prog) (k := 72) (V := .agg #[]) (t := 64) (e := 98) (ty := 0) Try.underlying64 hm
  have HT := Bx.mk (h4.met HDK.out (M' := []) hkm')
  have HK := Bx.mk (setK_kept (hk3.setCell (g := D.g) (.inl (.inl rfl)) 7 (.slice none 0 0)) #[] ck' (gm := D.gM) (.inl (.inr (.inl rfl))))
  clear h2 h3 h4 hm hkm hkm' ho ho2 hk3 hb hlen HT1 HK1
  generalize B.length = L at HT HK c10 c7 hcl ⊢
  go_wp2_with fail
  go_end0
  exact ⟨_, rfl, HT.out, HK.out⟩
end
end Go.Proofs.Ytbjeeefkbmdmfaa
namespace Go.Proofs.Ytbjeeefkbmdmfaa
open Go.RowKit
set_option linter.unusedVariables false
open Go.MapKept Go.Maps

/-- how many frames there are -/
def lenF (D : TD) (w : World) : Nat := match w.cell? ⟨D.g, 7, none⟩ with
  | some (.slice _ n _) => n
  | _ => 0
/-- what holds while it looks -/
structure SeI (D : TD) (w : World) (vF : Value) (M : List Ps) (t : Nat) (X : Ss Po) (vO : Value) (wr : World) (v : Value) (B : List Fr) (f : Fr) : Prop where
  tm : Tm D wr v (B ++ [f]) M t 0 vO []
  pre : Pre (tS D) X B f M t
  ok : TOk D B f M t
  kp : Kept (ownT D vF) w wr
  pl : At3 w vF v
/-- it has settled -/
def SetP (D : TD) (X : Ss Po) (t : Nat) (w : World) (vF : Value) (e : Ending) (w' : World) : Prop := ∃ vF', e = .returned (.tuple #[]) ∧ StQ D w' vF' X t w vF
section
variable {D : TD} {w w' wr : World} {vF v : Value} {F B : List Fr} {f : Fr} {M : List Ps} {t : Nat} {kd : Int} {vO : Value} {o : List Nat} {gF cF n : Nat} {X : Ss Po}
set_option maxRecDepth 100000 in
theorem Tm.lenF (h : Tm D w vF F M t kd vO o) : lenF D w = F.length := by
  obtain ⟨a, c, rfl⟩ := own_sl18 h.fr
  unfold Proofs.Ytbjeeefkbmdmfaa.lenF
  rw [h.cells.2.2.2.2.2.2.2.1]
set_option maxRecDepth 100000 in
theorem SeI.below (h : SeI D w vF M t X vO wr v B f) (hb : Below wr.heap.size wr w') : SeI D w vF M t X vO w' v B f := ⟨h.tm.below hb, h.pre, h.ok, h.kp.below hb, h.pl⟩
set_option maxRecDepth 100000 in
theorem SeI.kon (h : SeI D w vF M t X vO wr v B f) (hk : Kept (ownT D v) wr w') : Kept (ownT D vF) w w' := kept_on h.kp hk h.pl
set_option maxRecDepth 100000 in
theorem at_none (w : World) (v : Value) : At3 w v (.slice none 0 0) := fun j e => by cases e
set_option maxHeartbeats 4000000 in
set_option maxRecDepth 100000 in
theorem settle_any (h : Tm D w vF (B ++ [f]) M t 0 vO []) (hk : TDK D) (ht : (t : Int) ≤ D.bu) (hp : Pre (tS D) X B f M t) (hok : TOk D B f M t) :
    Calls Try.prog 35 #[.pointer (some ⟨D.g, 0, none⟩)] w (SetP D X t w vF) := by
  have HDK := Bx.mk hk
  have HT := Bx.mk ht
  have HS0 : Bx (SeI D w vF M t X vO w vF B f) := ⟨⟨h, hp, hok, Kept.refl _ _, At3.refl _ _⟩⟩
  clear h hk ht hp hok
  go_enter Try.func35, Try.ntmps35
  go_wp2_with fail
  go_loopw [] (fun wr => (∃ v B' f', Bx (SeI D w vF M t X vO wr v B' f')) ∨ (∃ v, Bx (Tm D wr v [] M t 0 vO [] ∧ (X.ov = 2 ∧ X.o = []) ∧ Kept (ownT D vF) w wr ∧ At3 w vF v))) (fun wr => lenF D wr)
  case atStart => exact .inl ⟨_, _, _, HS0⟩
  case round =>
    clear HS0
    rcases hrel with ⟨v, B', f', HS⟩ | ⟨v, HS⟩
    · obtain ⟨gF, cF, rfl, _, _, _⟩ := HS.out.tm.form
      have c7 := HS.out.tm.cells.2.2.2.2.2.2.2.1
      have HLF := Bx.mk HS.out.tm.lenF
      obtain ⟨L, HL⟩ : ∃ L : Nat, Bx (B'.length = L) := ⟨_, ⟨rfl⟩⟩
      have HBL : Bx (B'.length ≤ 1073741824) := ⟨by have := HS.out.ok.nb; have := HT.out; have := HDK.out.bu; omega⟩
      rw [HL.out] at c7
      have h0 : (0 : Int) < ((L + 1 : Nat) : Int) := by omega
      go_wp2_with fail
      refine (last_any HS.out.tm HBL.out).mono ?_
      rintro e w1 ⟨rfl, q, rfl⟩
      rw [HL.out]
      have HS1 := Bx.mk (HS.out.below (below_drewN (Below.refl _ _) q))
      clear HS c7 h0
      generalize wr.drewN q = w1 at HS1 ⊢
      have c4 := HS1.out.tm.cells.2.2.2.2.1
      have x0 := HS1.out.tm.top.1
      rw [HL.out] at x0
      have HX : Bx (f'.x < 2 ^ D.n) := ⟨HS1.out.ok.pf.lt⟩
      have HX64 := Bx.mk (low64 HDK.out.n64 HX.out)
      have HQW : Bx (∀ W, Calls Try.prog 54 #[.int .u64 (D.dn : Nat), .int .u64 (f'.x : Nat)] W fun e w' => e = .returned (.bool (inB D.n D.dn f'.x)) ∧ w' = W) := ⟨fun W => within_any D.n D.dn f'.x HDK.out.n64 HDK.out.dn.1 HX64.out W⟩
      have HFB := Bx.mk (full_bits (x := f'.x) (S := f'.S) HDK.out)
      rw [← HDK.out.len] at HFB
      obtain ⟨bF, HBF⟩ : ∃ bF, Bx ((tS D).full (f'.p (tS D).n) = bF) := ⟨_, ⟨rfl⟩⟩
      have HBF2 : Bx (inB D.n D.dn f'.x = bF) := ⟨by rw [← HBF.out, ← HDK.out.len]; exact HFB.out.symm⟩
      rw [HBF2.out] at HQW
      clear HFB HBF2 HX64
      go_upto_region 2 with fail
      go_quiet ((go_at_call 54; exact Calls.quiet_of_same (HQW.out _)))
      have HS2 := Bx.mk (HS1.out.below (below_drewN (Below.refl _ _) nq))
      clear HS1 c4 x0 HQW
      generalize w1.drewN nq = w2 at HS2 ⊢
      cases bF with
      | true =>
        have HFI := Bx.mk (HS2.out.pre.fits HBF.out)
        go_wp2_with fail
        refine (end_fits HS2.out.tm HDK.out HBL.out).mono ?_
        rintro e w3 ⟨vO', rfl, ht3, hk3⟩
        have HT3 := Bx.mk ht3
        have HK3 := Bx.mk (HS2.out.kon hk3)
        clear ht3 hk3 HS2
        go_wp2_with fail
        refine bodyPost_ret (results_none rfl _ _ _) rfl ?_
        exact ⟨.slice none 0 0, rfl, ⟨[], [], 1, vO', _, ⟨HT3.out, .inr ⟨rfl, .inl ⟨by rw [HFI.out.1]; decide, by rw [HFI.out.1]; rfl, HFI.out.2.symm⟩⟩⟩⟩, HK3.out, at_none _ _⟩
      | false =>
        have HKF : Bx (f'.k ≤ D.n) := ⟨HS2.out.ok.kf⟩
        go_upto_region 4 with fail
        have hk : w2.drew.cell? ⟨gF, L * 6, none⟩ = some (.int .u64 (f'.x : Nat)) := by
          have a := HS2.out.tm.top.1
          rw [HL.out] at a
          exact a
        have htm : SeI D w vF M t X vO w2.drew (.slice (some ⟨gF, 0, none⟩) (B'.length + 1) cF) B' f' := HS2.out.below (Below.refl _ _).drew
        have HPR := Bx.mk htm.pre
        have HOK := Bx.mk htm.ok
        clear HS2
        refine wp_region_held_drew (S := fun W => W.cell? ⟨gF, L * 6, none⟩ = some (.int .u64 (f'.x : Nat))) (by kernel_rfl) hk (fun _ => ?_)
        generalize w2.drew = wk at hk htm ⊢
        have x5 := htm.tm.top.2.2.2.2.2
        rw [HL.out] at x5
        refine wpAnyH_take (i := 0) (oi := { dst := some 23, op := Op.move (Operand.tmp 2), type := 101, pos := "search.go:76", after := #[], guard := none }) (v := ?vtse41) rfl (by kernel_rfl) (by kernel_rfl) (by kernel_rfl) (fun _ _ _ h => h) (Or.inl ⟨by rfl, ?ytse41⟩) hk ?rtse41
        case ytse41 => (intro w hSw; (try dsimp only at hSw); go_simp; first | done | with_reducible rfl)
        simp only [Act.put, List.setIfInBounds_toArray, List.set_cons_zero, List.set_cons_succ]
        refine wpAnyH_take (i := 1) (oi := { dst := some 24, op := Op.move (Operand.tmp 0), type := 26, pos := "search.go:76", after := #[], guard := none }) (v := ?vtse42) rfl (by kernel_rfl) (by kernel_rfl) (by kernel_rfl) (fun _ _ _ h => h) (Or.inl ⟨by rfl, ?ytse42⟩) hk ?rtse42
        case ytse42 => (intro w hSw; (try dsimp only at hSw); go_simp; first | done | with_reducible rfl)
        simp only [Act.put, List.setIfInBounds_toArray, List.set_cons_zero, List.set_cons_succ]
        refine wpAnyH_take (i := 2) (oi := { dst := some 25, op := Op.move (Operand.tmp 2), type := 101, pos := "search.go:76", after := #[], guard := none }) (v := ?vtse43) rfl (by kernel_rfl) (by kernel_rfl) (by kernel_rfl) (fun _ _ _ h => h) (Or.inl ⟨by rfl, ?ytse43⟩) hk ?rtse43
        case ytse43 => (intro w hSw; (try dsimp only at hSw); go_simp; first | done | with_reducible rfl)
        simp only [Act.put, List.setIfInBounds_toArray, List.set_cons_zero, List.set_cons_succ]
        refine wpAnyH_take (i := 3) (oi := { dst := some 26, op := Op.nilCheck (Operand.tmp 25), type := 0, pos := "search.go:76", after := #[{ on := 2, ground := Ground.data }], guard := none }) (v := ?vtse44) rfl (by kernel_rfl) (by kernel_rfl) (by kernel_rfl) (fun _ _ _ h => h) (Or.inl ⟨by rfl, ?ytse44⟩) hk ?rtse44
        case ytse44 => (intro w hSw; (try dsimp only at hSw); go_simp; first | done | with_reducible rfl)
        simp only [Act.put, List.setIfInBounds_toArray, List.set_cons_zero, List.set_cons_succ]
        refine wpAnyH_take (i := 4) (oi := { dst := some 27, op := Op.fieldAddr 100 (Operand.tmp 26) 0, type := 0, pos := "search.go:76", after := #[{ on := 3, ground := Ground.data }], guard := none }) (v := ?vtse45) rfl (by kernel_rfl) (by kernel_rfl) (by kernel_rfl) (fun _ _ _ h => h) (Or.inl ⟨by rfl, ?ytse45⟩) hk ?rtse45
        case ytse45 => (intro w hSw; (try dsimp only at hSw); go_simp; first | done | with_reducible rfl)
        simp only [Act.put, List.setIfInBounds_toArray, List.set_cons_zero, List.set_cons_succ]
        refine wpAnyH_take (i := 5) (oi := { dst := some 28, op := Op.fieldAddr 72 (Operand.tmp 27) 0, type := 0, pos := "search.go:76", after := #[{ on := 4, ground := Ground.data }], guard := none }) (v := ?vtse46) rfl (by kernel_rfl) (by kernel_rfl) (by kernel_rfl) (fun _ _ _ h => h) (Or.inl ⟨by rfl, ?ytse46⟩) hk ?rtse46
        case ytse46 => (intro w hSw; (try dsimp only at hSw); go_simp; first | done | with_reducible rfl)
        simp only [Act.put, List.setIfInBounds_toArray, List.set_cons_zero, List.set_cons_succ]
        refine wpAnyH_take (i := 6) (oi := { dst := some 29, op := Op.load 60 (Operand.tmp 28), type := 60, pos := "search.go:76", after := #[{ on := 5, ground := Ground.data }], guard := none }) (v := ?vtse47) rfl (by kernel_rfl) (by kernel_rfl) (by kernel_rfl) (fun _ _ _ h => h) (Or.inl ⟨by rfl, ?ytse47⟩) hk ?rtse47
        case ytse47 => (intro w hSw; have hcw := hSw; clear hSw; go_simp; first | done | with_reducible rfl)
        simp only [Act.put, List.setIfInBounds_toArray, List.set_cons_zero, List.set_cons_succ]
        refine wpAnyH_take (i := 7) (oi := { dst := some 30, op := Op.move (Operand.tmp 2), type := 101, pos := "search.go:76", after := #[], guard := none }) (v := ?vtse48) rfl (by kernel_rfl) (by kernel_rfl) (by kernel_rfl) (fun _ _ _ h => h) (Or.inl ⟨by rfl, ?ytse48⟩) hk ?rtse48
        case ytse48 => (intro w hSw; (try dsimp only at hSw); go_simp; first | done | with_reducible rfl)
        simp only [Act.put, List.setIfInBounds_toArray, List.set_cons_zero, List.set_cons_succ]
        refine wpAnyH_take (i := 8) (oi := { dst := some 31, op := Op.nilCheck (Operand.tmp 30), type := 0, pos := "search.go:76", after := #[{ on := 7, ground := Ground.data }], guard := none }) (v := ?vtse49) rfl (by kernel_rfl) (by kernel_rfl) (by kernel_rfl) (fun _ _ _ h => h) (Or.inl ⟨by rfl, ?ytse49⟩) hk ?rtse49
        case ytse49 => (intro w hSw; (try dsimp only at hSw); go_simp; first | done | with_reducible rfl)
        simp only [Act.put, List.setIfInBounds_toArray, List.set_cons_zero, List.set_cons_succ]
        refine wpAnyH_take (i := 9) (oi := { dst := some 32, op := Op.fieldAddr 100 (Operand.tmp 31) 1, type := 0, pos := "search.go:76", after := #[{ on := 8, ground := Ground.data }], guard := none }) (v := ?vtse410) rfl (by kernel_rfl) (by kernel_rfl) (by kernel_rfl) (fun _ _ _ h => h) (Or.inl ⟨by rfl, ?ytse410⟩) hk ?rtse410
        case ytse410 => (intro w hSw; (try dsimp only at hSw); go_simp; first | done | with_reducible rfl)
        simp only [Act.put, List.setIfInBounds_toArray, List.set_cons_zero, List.set_cons_succ]
        refine wpAnyH_ready (rs := [10]) (by decide +kernel) (by simp) ?_
        refine AllReadyH.cons (o := { dst := some 33, op := Op.load 3 (Operand.tmp 32), type := 3, pos := "search.go:76", after := #[{ on := 9, ground := Ground.data }], guard := none }) rfl (fun K hK => ?_) AllReadyH.nil
        go_simp
        refine hK.out _ _ hk (fun _ => ?_)
        clear hK K
        try simp only [Act.put, List.setIfInBounds_toArray, List.set_cons_zero, List.set_cons_succ]
        refine wpAnyH_ready (rs := [11]) (by decide +kernel) (by simp) ?_
        refine AllReadyH.cons (o := { dst := some 34, op := Op.call { callee := Callee.value (Operand.func 56), args := #[Operand.tmp 24, Operand.tmp 29, Operand.tmp 33], argTypes := #[26, 60, 3] }, type := 3, pos := "search.go:76", after := #[{ on := 1, ground := Ground.data }, { on := 6, ground := Ground.data }, { on := 10, ground := Ground.data }], guard := none }) rfl (fun K hK => ?_) AllReadyH.nil
        go_simp
        refine (due_any htm.tm HDK.out f'.x f'.S HX.out f'.k HKF.out).mono ?_
        rintro e1 wk2 ⟨j, rfl, hdu, hb2⟩
        have HDU := Bx.mk hdu
        replace htm := htm.below hb2
        clear x5
        have x0 := htm.tm.top.1
        have x5 := htm.tm.top.2.2.2.2.2
        have fz := htm.tm.frozF (B'.length * 6 + 5)
        rw [HL.out] at x0 x5 fz
        replace hk := x0
        clear hdu hb2 x0
        refine hK.out _ _ hk (fun _ => ?_)
        clear hK K
        try simp only [Act.put, List.setIfInBounds_toArray, List.set_cons_zero, List.set_cons_succ]
        refine wpAnyH_take (i := 12) (oi := { dst := some 35, op := Op.nilCheck (Operand.tmp 23), type := 0, pos := "search.go:76", after := #[{ on := 0, ground := Ground.data }, { on := 0, ground := Ground.phase }, { on := 1, ground := Ground.phase }, { on := 2, ground := Ground.phase }, { on := 3, ground := Ground.phase }, { on := 4, ground := Ground.phase }, { on := 5, ground := Ground.phase }, { on := 6, ground := Ground.phase }, { on := 7, ground := Ground.phase }, { on := 8, ground := Ground.phase }, { on := 9, ground := Ground.phase }, { on := 10, ground := Ground.phase }, { on := 11, ground := Ground.phase }], guard := none }) (v := ?vtse411) rfl (by kernel_rfl) (by kernel_rfl) (by kernel_rfl) (fun _ _ _ h => h) (Or.inl ⟨by rfl, ?ytse411⟩) hk ?rtse411
        case ytse411 => (intro w hSw; (try dsimp only at hSw); go_simp; first | done | with_reducible rfl)
        simp only [Act.put, List.setIfInBounds_toArray, List.set_cons_zero, List.set_cons_succ]
        refine wpAnyH_take (i := 13) (oi := { dst := some 36, op := Op.fieldAddr 100 (Operand.tmp 35) 1, type := 0, pos := "search.go:76", after := #[{ on := 12, ground := Ground.data }, { on := 0, ground := Ground.phase }, { on := 1, ground := Ground.phase }, { on := 2, ground := Ground.phase }, { on := 3, ground := Ground.phase }, { on := 4, ground := Ground.phase }, { on := 5, ground := Ground.phase }, { on := 6, ground := Ground.phase }, { on := 7, ground := Ground.phase }, { on := 8, ground := Ground.phase }, { on := 9, ground := Ground.phase }, { on := 10, ground := Ground.phase }, { on := 11, ground := Ground.phase }], guard := none }) (v := ?vtse412) rfl (by kernel_rfl) (by kernel_rfl) (by kernel_rfl) (fun _ _ _ h => h) (Or.inl ⟨by rfl, ?ytse412⟩) hk ?rtse412
        case ytse412 => (intro w hSw; (try dsimp only at hSw); go_simp; first | done | with_reducible rfl)
        simp only [Act.put, List.setIfInBounds_toArray, List.set_cons_zero, List.set_cons_succ]
        refine wpAnyH_ready (rs := [14]) (by decide +kernel) (by simp) ?_
        refine AllReadyH.cons (o := { dst := none, op := Op.store 3 (Operand.tmp 36) (Operand.tmp 34), type := 0, pos := "search.go:76", after := #[{ on := 13, ground := Ground.data }, { on := 11, ground := Ground.data }, { on := 11, ground := Ground.chain }, { on := 0, ground := Ground.phase }, { on := 1, ground := Ground.phase }, { on := 2, ground := Ground.phase }, { on := 3, ground := Ground.phase }, { on := 4, ground := Ground.phase }, { on := 5, ground := Ground.phase }, { on := 6, ground := Ground.phase }, { on := 7, ground := Ground.phase }, { on := 8, ground := Ground.phase }, { on := 9, ground := Ground.phase }, { on := 10, ground := Ground.phase }, { on := 11, ground := Ground.phase }], guard := none }) rfl (fun K hK => ?_) AllReadyH.nil
        go_simp
        have HT4 := Bx.mk (htm.tm.place HDK.out j)
        have HK4 : Bx (Kept (ownT D vF) w (wk2.setCell ⟨gF, B'.length * 6 + 5, none⟩ (.int .i64 (j : Nat)))) := ⟨htm.kp.setCell (g := gF) (by rcases htm.pl gF rfl with h | h; exact .inl (.inr (.inr h)); exact .inr h) _ _⟩
        have HA4 := Bx.mk htm.pl
        rw [show wk2.setCell ⟨gF, B'.length * 6 + 5, none⟩ (.int .i64 (j : Nat)) = wk2.setCell ⟨gF, L * 6 + 5, none⟩ (.int .i64 (j : Nat)) by rw [HL.out]] at HT4 HK4
        clear x5 fz hk htm
        generalize wk2.setCell ⟨gF, L * 6 + 5, none⟩ (.int .i64 (j : Nat)) = w4 at HT4 HK4 ⊢
        have hk := HT4.out.top.1
        rw [HL.out] at hk
        refine hK.out _ _ hk (fun _ => ?_)
        clear hK K
        try simp only [Act.put, List.setIfInBounds_toArray, List.set_cons_zero, List.set_cons_succ]
        refine wpAnyH_done (by decide +kernel) ?_ _
        have x5 := HT4.out.top.2.2.2.2.2
        have c3 := HT4.out.cells.2.2.2.1
        have c8 := HT4.out.cells.2.2.2.2.2.2.2.2.1
        have c2 := HT4.out.cells.2.2.1
        rw [HL.out] at x5
        have HJ : Bx (j ≤ D.n) := ⟨HDU.out.le⟩
        obtain ⟨n, HN⟩ : ∃ n, Bx (D.n = n) := ⟨_, ⟨rfl⟩⟩
        rw [HN.out] at c3 HJ
        by_cases hjn : j < n
        · have hjI : (j : Int) < (n : Int) := by omega
          have HRU : Bx (Run (tS D) X B' ⟨f'.x, f'.S, j⟩ M t) := ⟨HPR.out.due HBF.out HDU.out.ge (by show j < D.ops.length; rw [HDK.out.len, HN.out]; exact hjn) (fun i a b => by rw [show f'.p (tS D).n = psO D.n (f'.x, f'.S) by show psO D.ops.length f'.q = _; rw [HDK.out.len]; rfl]; exact HDU.out.no i a b) (by rw [show f'.p (tS D).n = psO D.n (f'.x, f'.S) by show psO D.ops.length f'.q = _; rw [HDK.out.len]; rfl]; exact HDU.out.yes (by rw [HN.out]; exact hjn))⟩
          have HOK4 : Bx (TOk D B' ⟨f'.x, f'.S, j⟩ M t) := ⟨⟨HOK.out.pm, HOK.out.pb, HOK.out.pf, HDU.out.le, HOK.out.nb⟩⟩
          by_cases htb : (t : Int) = D.bu
          · have hq : ((t : Int) == D.bu) = true := by rw [htb]; simp
            have HTB := Bx.mk htb
            clear htb
            go_upto_region 5 with fail
            go_quiet (fail)
            have HT5 := Bx.mk (HT4.out.drewN nq)
            have HK5 := Bx.mk (HK4.out.drewN nq)
            clear HT4 HK4 x5 c3 c8 c2
            generalize w4.drewN nq = w5 at HT5 HK5 ⊢
            have c8 := HT5.out.cells.2.2.2.2.2.2.2.2.1
            have c2 := HT5.out.cells.2.2.1
            go_upto_region 6 with fail
            go_quiet (fail)
            have HT6 := Bx.mk (HT5.out.drewN nq)
            have HK6 := Bx.mk (HK5.out.drewN nq)
            clear HT5 HK5 c8 c2
            generalize w5.drewN nq = w6 at HT6 HK6 ⊢
            go_wp2_with fail
            refine (end_not HT6.out HDK.out 4 (by decide)).mono ?_
            rintro e w7 ⟨rfl, ht7, hk7⟩
            have HT7 := Bx.mk ht7
            have HK7 := Bx.mk (kept_on HK6.out hk7 HA4.out)
            clear ht7 hk7 HT6 HK6
            go_wp2_with fail
            refine bodyPost_ret (results_none rfl _ _ _) rfl ?_
            exact ⟨.slice none 0 0, rfl, ⟨[], [], 4, vO, _, ⟨HT7.out, .inr ⟨rfl, .inr ⟨by rw [HRU.out.1], HTB.out, rfl, rfl⟩⟩⟩⟩, HK7.out, at_none _ _⟩
          · have hq : ((t : Int) == D.bu) = false := beq_false_of_ne htb
            have HTB := Bx.mk htb
            clear htb
            go_upto_region 5 with fail
            go_quiet (fail)
            have HT5 := Bx.mk (HT4.out.drewN nq)
            have HK5 := Bx.mk (HK4.out.drewN nq)
            clear HT4 HK4 x5 c3 c8 c2
            generalize w4.drewN nq = w5 at HT5 HK5 ⊢
            have c8 := HT5.out.cells.2.2.2.2.2.2.2.2.1
            have c2 := HT5.out.cells.2.2.1
            go_upto_region 6 with fail
            go_quiet (fail)
            have HT6 := Bx.mk (HT5.out.drewN nq)
            have HK6 := Bx.mk (HK5.out.drewN nq)
            clear HT5 HK5 c8 c2
            generalize w5.drewN nq = w6 at HT6 HK6 ⊢
            go_wp2_with fail
            refine bodyPost_ret (results_none rfl _ _ _) rfl ?_
            exact ⟨_, rfl, ⟨_, M, 0, vO, [], ⟨HT6.out, .inl ⟨by rw [HRU.out.1], HTB.out, rfl, rfl, _, _, rfl, HRU.out, HOK4.out⟩⟩⟩, HK6.out, HA4.out⟩
        · have hjI : ¬ (j : Int) < (n : Int) := by omega
          have HNO : Bx (∀ i, f'.k ≤ i → i < (tS D).n → (tS D).free (f'.p (tS D).n) i = false) := ⟨fun i a b => by
            have b : i < D.ops.length := b
            rw [show f'.p (tS D).n = psO D.n (f'.x, f'.S) by show psO D.ops.length f'.q = _; rw [HDK.out.len]; rfl]
            exact HDU.out.no i a (by have := HN.out; rw [HDK.out.len] at b; omega)⟩
          have HKL : Bx (f'.k ≤ (tS D).n) := ⟨by show f'.k ≤ D.ops.length; rw [HDK.out.len]; exact HKF.out⟩
          go_upto_region 5 with fail
          go_quiet (fail)
          have HT5 := Bx.mk (HT4.out.drewN nq)
          have HK5 := Bx.mk (HK4.out.drewN nq)
          clear HT4 HK4 x5 c3 c8 c2
          generalize w4.drewN nq = w5 at HT5 HK5 ⊢
          rcases List.eq_nil_or_concat B' with rfl | ⟨B2, f2, rfl⟩
          · have HX2 := Bx.mk (HPR.out.none HBF.out HKL.out HNO.out)
            go_wp2_with fail
            refine (leave_nil HT5.out HDK.out).mono ?_
            rintro e w6 ⟨rfl, ht6, hk6⟩
            have HT6 := Bx.mk ht6
            have HK6 := Bx.mk (kept_on HK5.out hk6 HA4.out)
            have HA6 : Bx (At3 w vF (.slice (some ⟨gF, 0, none⟩) 0 cF)) := ⟨fun j e => HA4.out j e⟩
            clear ht6 hk6 HT5 HK5
            go_wp2_with fail
            go_roundw
            case rel => exact .inr ⟨_, ⟨HT6.out, HX2.out, HK6.out, HA6.out⟩⟩
            case measure => rw [HLF.out, HT6.out.lenF]; simp
          · rw [List.concat_eq_append] at *
            have hl : (B2 ++ [f2]).length = B2.length + 1 := by simp
            have HP2 := Bx.mk (HPR.out.back HBF.out HKL.out HNO.out (HOK.out.pb f2 (by simp)).2.2)
            have HO2 : Bx (TOk D B2 ⟨f2.x, f2.S, f2.k + 1⟩ M t) := ⟨⟨HOK.out.pm, fun y hy => HOK.out.pb y (by simp [hy]), (HOK.out.pb f2 (by simp)).1, (HOK.out.pb f2 (by simp)).2.1, by have := HOK.out.nb; rw [hl] at this; omega⟩⟩
            have HK2 : Bx (f2.k ≤ 64) := ⟨by have := (HOK.out.pb f2 (by simp)).2.1; have := HDK.out.n64; omega⟩
            have HB2 : Bx (B2.length ≤ 1073741824) := ⟨by have := HBL.out; rw [hl] at this; omega⟩
            rw [hl] at HT5
            go_wp2_with fail
            refine (leave_snoc HT5.out HDK.out HB2.out HK2.out).mono ?_
            rintro e w6 ⟨rfl, ht6, hk6⟩
            have HT6 := Bx.mk ht6
            have HK6 := Bx.mk (kept_on HK5.out hk6 (fun j e => HA4.out j e))
            have HA6 : Bx (At3 w vF (.slice (some ⟨gF, 0, none⟩) (B2.length + 1) cF)) := ⟨fun j e => HA4.out j e⟩
            have HLL : Bx (B2.length + 1 < lenF D wr) := ⟨by rw [HLF.out]; simp⟩
            clear ht6 hk6 HT5 HK5 hl
            go_wp2_with fail
            go_roundw
            case rel => exact .inl ⟨_, _, _, ⟨⟨HT6.out, HP2.out, HO2.out, HK6.out, HA6.out⟩⟩⟩
            case measure => rw [HT6.out.lenF]; simpa using HLL.out
    · have c7 := HS.out.1.cells.2.2.2.2.2.2.2.1
      obtain ⟨a, c, rfl⟩ := own_sl18 HS.out.1.fr
      go_wp2_with fail
      refine (end_not HS.out.1 HDK.out 2 (by decide)).mono ?_
      rintro e w7 ⟨rfl, ht7, hk7⟩
      have HT7 := Bx.mk ht7
      have HK7 := Bx.mk (kept_on HS.out.2.2.1 hk7 HS.out.2.2.2)
      clear ht7 hk7 c7
      go_wp2_with fail
      go_end0
      exact ⟨.slice none 0 0, rfl, ⟨[], [], 2, vO, _, ⟨HT7.out, .inr ⟨rfl, .inl ⟨by rw [HS.out.2.1.1]; decide, by rw [HS.out.2.1.1]; rfl, HS.out.2.1.2.symm⟩⟩⟩⟩, HK7.out, at_none _ _⟩
end
end Go.Proofs.Ytbjeeefkbmdmfaa
