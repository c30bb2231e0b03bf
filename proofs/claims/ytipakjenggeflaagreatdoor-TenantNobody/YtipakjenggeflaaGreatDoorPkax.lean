/- What asks that commit have in common. An upload more. How Do ends. No walk. A tenant that was just opened, in memory. No walk. Asks, limits, deeds that came in. An ask, none of whose parts is too long, in memory of its own. -/
import Derived.Test.YtipakjenggeflaaGreatDoorPkav
import Derived.Test.YtipakjenggeflaaGreatDoorShelfTn
import Derived.Test.YtipakjenggeflaaGreatDoorEnLine
import Derived.Test.YtipakjenggeflaaGreatDoorTnJob
import Derived.Test.YtipakjenggeflaaGreatDoorPkab
import Derived.Test.YtipakjenggeflaaGreatDoorShelf
import Derived.Test.YtipakjenggeflaaGreatDoorPkaj
import Derived.Test.YtipakjenggeflaaGreatDoorDecAny
import Derived.Test.YtipakjenggeflaaGreatDoorShelfAtoi
import Derived.Test.YtipakjenggeflaaGreatDoorPkaa
import Derived.Test.YtipakjenggeflaaGreatDoorPkae
import Derived.Test.YtipakjenggeflaaGreatDoorPkaf
import Derived.Test.YtipakjenggeflaaGreatDoorPkac
import Derived.Test.YtipakjenggeflaaGreatDoorPkad
import Derived.Test.YtipakjenggeflaaGreatDoorPkai
import Derived.Test.YtipakjenggeflaaGreatDoorPkam
import Derived.Test.YtipakjenggeflaaGreatDoorLdNew
import Derived.Test.YtipakjenggeflaaGreatDoorPkas
import Derived.Test.YtipakjenggeflaaGreatDoorPkag
import Derived.Test.YtipakjenggeflaaGreatDoorPkak
import Derived.Test.YtipakjenggeflaaGreatDoorPkah
import Derived.Test.YtipakjenggeflaaGreatDoorQSmall
import Derived.Test.YtipakjenggeflaaGreatDoorPkap
import Derived.Test.YtipakjenggeflaaGreatDoorPkan
import Derived.Lib.Repeat
import Derived.Lib.Bytealg
import Derived.Laws.Concat
import Derived.Lib.AtoiAllCases
import Derived.BigQuiet
import Derived.BigRegion
import Derived.Deep.CutRange
import Derived.Laws.OwnMore
import Derived.Deep.OwnRows
import Derived.Laws.CopyOwn
import Derived.ChangeKeysEq
import Derived.Deep.MidRow
import Derived.Laws.BitsAllLaws
import Derived.Laws.IdiomStrings
import Derived.Lib.ConvBytes
import Derived.Deep.AppendLies
import Derived.Laws.Tables
import Derived.Laws.AppendOwn
import Derived.Laws.AppendOwnNone
import Derived.Lib.SmallJoins
import Derived.Deep.Slices
import Derived.Laws.Rows
namespace Go.Proofs.YtipakjenggeflaaGreatDoor
open Go.RowKit
set_option linter.unusedVariables false

/-- the library's tables, the errors, the table of addends; they lie below N -/
structure Tbs (N : Nat) (w : World) : Prop where
  t : ∀ w', Below N w w' → Tens w' ∧ Errs w' ∧ Tab w'
  le : N ≤ w.heap.size
section
variable {N : Nat} {w w' : World} {own own' : Nat → Prop}
set_option maxRecDepth 100000 in
theorem Tbs.new (h1 : Tens w) (h2 : Errs w) (h3 : Tab w) : Tbs w.heap.size w := ⟨fun w' hb => ⟨h1.below hb, h2.below hb, h3.below hb⟩, Nat.le_refl _⟩
set_option maxRecDepth 100000 in
theorem Tbs.ten (h : Tbs N w) : Tens w := (h.t w (Below.refl _ _)).1
set_option maxRecDepth 100000 in
theorem Tbs.low (h : Tbs N w) (hb : Below N w w') : Tbs N w' := ⟨fun w2 h2 => h.t w2 (hb.trans h2), Nat.le_trans h.le hb.size⟩
set_option maxRecDepth 100000 in
theorem Tbs.below (h : Tbs N w) (hb : Below w.heap.size w w') : Tbs N w' := h.low (hb.mono h.le)
set_option maxRecDepth 100000 in
theorem Tbs.did (h : Tbs N w) (hd : Did own w w' own') (hN : ∀ j, own j → N ≤ j) : Tbs N w' := h.low (hd.kept.low hN h.le)
end
section
variable {A : Ad} {o : Nat → Nat → Prop} {w w' w1 w2 w4 : World} {own own2 : Nat → Prop} {l : Lm} {K : List Int} {s s' : DS} {L L' : LS} {M M' : List Pr} {E E' : List (List Int)} {Q Q' : List Int} {tk tk' : Option (Nat × List Int × List Int)} {vT vT' : Value}
set_option maxRecDepth 100000 in
theorem TnX.wide (h : TnX A o w own l K s L M E Q tk vT) (h1 : ∀ j, own j → own2 j) (h2 : ∀ j, own2 j → j < w.heap.size) : TnX A o w own2 l K s L M E Q tk vT :=
  ⟨h.tri, h.lg, h.qu, h.cq, h.tk, h.row, h.ct, h.dj, fun i j hj => h1 j (h.ow i j hj), h2⟩
set_option maxRecDepth 100000 in
/-- a part changed between two steps that change nothing of it; the result's variable is written -/
theorem tn_glue (h : TnX A o w own l K s L M E Q tk vT) {gr : Nat} (hb : Below w.heap.size w w1) (hg : w.heap.size ≤ gr ∧ gr < w1.heap.size) (h2 : ∃ o', TnX A o' w2 (ownN own w1 w2) l K s' L' M' E' Q' tk' vT') (hd : Did own w1 w2 (ownN own w1 w2)) (hk : Kept (fun j => j = gr ∨ w2.heap.size ≤ j) w2 w4) :
    (∃ o', TnX A o' w4 (ownN own w w4) l K s' L' M' E' Q' tk' vT') ∧ Did own w w4 (ownN own w w4) := by
  obtain ⟨o', h2⟩ := h2
  have hs1 := hb.size
  have hs2 := hd.kept.size
  have hs4 := hk.size
  refine ⟨⟨o', (h2.kept hk (fun j hj e => ?_)).wide (fun j hj => ?_) (fun j hj => ?_)⟩, ?_⟩
  · rcases e with e | e
    · rcases hj with hj | hj
      · have := h.lt j hj; omega
      · omega
    · have := h2.lt j hj; omega
  · rcases hj with hj | hj
    · exact .inl hj
    · exact .inr (by omega)
  · rcases hj with hj | hj
    · have := h.lt j hj; omega
    · exact hj.2
  · refine ⟨⟨hk.os.trans (hd.kept.os.trans hb.os), hk.tape.trans (hd.kept.tape.trans hb.tape), hk.output.trans (hd.kept.output.trans hb.output), by omega, fun j hj hn => ?_⟩, fun j hj => hj⟩
    rw [hk.block j (by omega) (fun e => by rcases e with e | e <;> omega), hd.kept.block j (by omega) hn, hb.block j hj]
end
/-- how an ask that commits ends -/
def AkP (A : Ad) (own : Nat → Prop) (l : Lm) (K : List Int) (s : DS) (L : LS) (M : List Pr) (E : List (List Int)) (Q : List Int) (tk : Option (Nat × List Int × List Int)) (vT : Value) (r : Rq) (w : World) (e : Ending) (w' : World) : Prop :=
  (r.c ≠ 0 ∧ TdP r.c [] w e w') ∨
  (r.c = 0 ∧ (∃ a n cap, e = .returned (tdV (cmC (coE s L l.q M r.C)) a n cap) ∧ Bts w' a n cap (if cmC (coE s L l.q M r.C) = 200 then strL ⟨(Lib.itoa r.x).toArray⟩ else [])) ∧ (∃ o', TnX A o' w' (ownN own w w') l K (coS s L l.q M r.C) (coL s L l.q M r.C) (coM s L l.q M r.C) E Q tk vT) ∧ Did own w w' (ownN own w w'))
/-- the result's variable -/
structure RvI (gr : Nat) (w W : World) : Prop where
  ge : w.heap.size ≤ gr
  row : W.heap[gr]? = some (.cells #[.int .i64 0, .slice none 0 0] 44 (0, 0))
  low : Below w.heap.size w W
section
variable {gr : Nat} {w W W' : World}
set_option maxRecDepth 100000 in
theorem RvI.new (w : World) : RvI w.heap.size w (w.alloc (.cells #[.int .i64 0, .slice none 0 0] 44)) := ⟨Nat.le_refl _, row2_new _ _ _ _, (Below.refl _ _).alloc (Nat.le_refl _) _⟩
set_option maxRecDepth 100000 in
theorem RvI.lt (h : RvI gr w W) : gr < W.heap.size := (Array.getElem?_eq_some_iff.1 h.row).1
set_option maxRecDepth 100000 in
theorem RvI.step (h : RvI gr w W) (hb : Below W.heap.size W W') : RvI gr w W' := ⟨h.ge, (hb.block gr h.lt).trans h.row, bstep h.low hb⟩
set_option maxRecDepth 100000 in
theorem RvI.cells (h : RvI gr w W) : W.cell? ⟨gr, 0, none⟩ = some (.int .i64 0) ∧ W.cell? ⟨gr, 1, none⟩ = some (.slice none 0 0) ∧ W.frozen? ⟨gr, 0, none⟩ = false ∧ W.frozen? ⟨gr, 1, none⟩ = false :=
  ⟨cell_of_row _ gr 0 _ _ (0, 0) h.row, cell_of_row _ gr 1 _ _ (0, 0) h.row, frozen_of_row _ gr 0 _ _ h.row, frozen_of_row _ gr 1 _ _ h.row⟩
set_option maxRecDepth 100000 in
theorem RvI.put (h : RvI gr w W) (c : Int) (a : Option Addr) (n cap : Nat) : Below w.heap.size w ((W.setCell ⟨gr, 0, none⟩ (.int .i64 c)).setCell ⟨gr, 1, none⟩ (.slice a n cap)) :=
  (h.low.setCell (p := ⟨gr, 0, none⟩) h.ge _).setCell (p := ⟨gr, 1, none⟩) h.ge _
set_option maxRecDepth 100000 in
theorem put_kept (own : Nat → Prop) (hg : own gr) (c : Int) (a : Option Addr) (n cap : Nat) : Kept own W ((W.setCell ⟨gr, 0, none⟩ (.int .i64 c)).setCell ⟨gr, 1, none⟩ (.slice a n cap)) :=
  ((Kept.refl own W).setCell (.inl hg) 0 _).setCell (.inl hg) 1 _
set_option maxRecDepth 100000 in
theorem put_bts {a0 : Option Addr} {n0 c0 : Nat} {b : List Int} (hb : Bts W a0 n0 c0 b) (hn : 0 < n0 → ∀ p, a0 = some p → p.block ≠ gr) (c : Int) (a : Option Addr) (n cap : Nat) : Bts ((W.setCell ⟨gr, 0, none⟩ (.int .i64 c)).setCell ⟨gr, 1, none⟩ (.slice a n cap)) a0 n0 c0 b :=
  hb.kept (put_kept (fun j => j = gr) rfl c a n cap) (fun hp p e => hn hp p e)
set_option maxRecDepth 100000 in
/-- bytes are no variable of that kind -/
theorem RvI.far (h : RvI gr w W) {a : Option Addr} {n c : Nat} {b : List Int} (hb : Bts W a n c b) : 0 < n → ∀ p, a = some p → p.block ≠ gr := by
  intro hp p e hg
  obtain ⟨b0, off, e1, _, hc⟩ := hb.spot hp
  rw [e1] at e; cases e
  have hg : b0 = gr := hg
  subst hg
  have h0 := hc 0 hp
  rw [cell_of_row _ b0 _ _ _ (0, 0) h.row] at h0
  have hlt : off + 0 < 2 := (Array.getElem?_eq_some_iff.1 h0).1
  rcases (show off = 0 ∨ off = 1 by omega) with rfl | rfl
  · cases h0
  · cases h0
end
set_option maxHeartbeats 4000000 in
set_option maxRecDepth 100000 in
theorem counted22_any (n st : Int) (hn : -9223372036854775808 ≤ n ∧ n ≤ 9223372036854775807) (w : World) (ht : Tens w) :
    Calls Tryz.prog 91 #[.int .i64 n, .int .i64 st] w (TdP st (if st = 200 then strL ⟨(Lib.itoa n).toArray⟩ else []) w) := by
  obtain ⟨B, HBB⟩ : ∃ B, Bx ((if st = 200 then strL ⟨(Lib.itoa n).toArray⟩ else []) = B) := ⟨_, ⟨rfl⟩⟩
  rw [HBB.out]
  have HV := Bx.mk (RvI.new w)
  obtain ⟨gr, HGR⟩ : ∃ gr, Bx (w.heap.size = gr) := ⟨_, ⟨rfl⟩⟩
  rw [HGR.out] at HV
  have HT := Bx.mk (ht.below HV.out.low)
  have HN := Bx.mk hn
  clear ht hn
  by_cases h : st = 200
  · have HE := HBB.out
    rw [if_pos h] at HE
    have HE := Bx.mk HE
    subst h
    clear HBB
    go_enter Tryz.func91, Tryz.ntmps91
    go_upto_region 1 with fail
    rw [HGR.out]
    generalize w.alloc (.cells #[.int .i64 0, .slice none 0 0] 44) = w1 at HV HT ⊢
    go_wp2_with fail
    refine (dec_any n HN.out.1 HN.out.2 _ HT.out).mono ?_
    rintro e w2 ⟨rfl, hb2⟩
    have HV2 := Bx.mk (HV.out.step hb2)
    have HSZ : Bx ((⟨(Lib.itoa n).toArray⟩ : ByteArray).size ≤ 1000000) := ⟨by have := itoa_len (x := n) HN.out; show (Lib.itoa n).toArray.size ≤ _; rw [List.size_toArray]; omega⟩
    generalize (⟨(Lib.itoa n).toArray⟩ : ByteArray) = S at HE HSZ
    clear hb2 HV
    go_wp2_with fail
    refine (said_any S HSZ.out _).mono ?_
    rintro e w3 ⟨a, m, cap, rfl, hm3, hb3⟩
    have HV3 := Bx.mk (HV2.out.step hb3)
    have HM3 := Bx.mk (put_bts hm3 (HV3.out.far hm3) 200 a m cap)
    obtain ⟨x0, x1, f0, f1⟩ := HV3.out.cells
    clear hm3 hb3 HV2
    go_wp2_with fail
    exact bodyPost_ret (v := tdV 200 a m cap) (by simp [results, Tryz.results91, go_sem, x0, x1]) rfl ⟨a, m, cap, rfl, by rw [← HE.out]; exact HM3.out, HV3.out.put _ _ _ _⟩
  · have HE := HBB.out
    rw [if_neg h] at HE
    have HE := Bx.mk HE
    have hq : (st != 200) = true := by simp [h]
    clear HBB h
    go_enter Tryz.func91, Tryz.ntmps91
    go_upto_region 1 with fail
    rw [HGR.out]
    generalize w.alloc (.cells #[.int .i64 0, .slice none 0 0] 44) = w1 at HV HT ⊢
    go_wp2_with fail
    refine (refused_any st _).mono ?_
    rintro e w3 ⟨rfl, hb3⟩
    have HV3 := Bx.mk (HV.out.step hb3)
    obtain ⟨x0, x1, f0, f1⟩ := HV3.out.cells
    clear hb3 HV
    go_wp2_with fail
    exact bodyPost_ret (v := tdV st none 0 0) (by simp [results, Tryz.results91, go_sem, x0, x1]) rfl ⟨none, 0, 0, rfl, by rw [← HE.out]; exact bts_noneT _, HV3.out.put _ _ _ _⟩
end Go.Proofs.YtipakjenggeflaaGreatDoor
namespace Go.Proofs.YtipakjenggeflaaGreatDoor
open Go.RowKit
set_option linter.unusedVariables false

section
variable {A : Ad} {o : Nat → Nat → Prop} {w w' w1 w4 w5 w6 : World} {own : Nat → Prop} {l : Lm} {K : List Int} {s : DS} {L : LS} {M : List Pr} {E : List (List Int)} {Q : List Int} {tk : Option (Nat × List Int × List Int)} {vT : Value} {gr : Nat}
set_option maxRecDepth 100000 in
theorem akp_no {r : Rq} {c : Int} {e : Ending} (hr : r = no c) (hc : c ≠ 0) (h : TdP c [] w e w') : AkP A own l K s L M E Q tk vT r w e w' := by
  subst hr
  exact .inl ⟨hc, h⟩
set_option maxRecDepth 100000 in
theorem rv_row (h : TnX A o w own l K s L M E Q tk vT) (hV : RvI gr w w4) (hd : Did own w4 w5 (ownN own w4 w5)) : w5.heap[gr]? = some (.cells #[.int .i64 0, .slice none 0 0] 44 (0, 0)) :=
  (hd.kept.block gr hV.lt (fun ho => by have := h.lt gr ho; have := hV.ge; omega)).trans hV.row
set_option maxRecDepth 100000 in
theorem rv_cells {W : World} (h : W.heap[gr]? = some (.cells #[.int .i64 0, .slice none 0 0] 44 (0, 0))) : W.cell? ⟨gr, 0, none⟩ = some (.int .i64 0) ∧ W.cell? ⟨gr, 1, none⟩ = some (.slice none 0 0) ∧ W.frozen? ⟨gr, 0, none⟩ = false ∧ W.frozen? ⟨gr, 1, none⟩ = false :=
  ⟨cell_of_row _ gr 0 _ _ (0, 0) h, cell_of_row _ gr 1 _ _ (0, 0) h, frozen_of_row _ gr 0 _ _ h, frozen_of_row _ gr 1 _ _ h⟩
set_option maxRecDepth 100000 in
theorem akp_yes {r : Rq} {C : List Chg} {x : Int} {B : List Int} {a : Option Addr} {n cap : Nat} (h : TnX A o w own l K s L M E Q tk vT) (hr : r = ⟨0, C, x⟩) (hV : RvI gr w w4) (hT : ∃ o', TnX A o' w5 (ownN own w4 w5) l K (coS s L l.q M C) (coL s L l.q M C) (coM s L l.q M C) E Q tk vT) (hd : Did own w4 w5 (ownN own w4 w5)) (hb : Below w5.heap.size w5 w6)
    (hm : Bts w6 a n cap B) (hB : B = if cmC (coE s L l.q M C) = 200 then strL ⟨(Lib.itoa x).toArray⟩ else []) : AkP A own l K s L M E Q tk vT r w (.returned (tdV (cmC (coE s L l.q M C)) a n cap)) ((w6.setCell ⟨gr, 0, none⟩ (.int .i64 (cmC (coE s L l.q M C)))).setCell ⟨gr, 1, none⟩ (.slice a n cap)) := by
  subst hr
  have hlt := hV.lt
  have heq := hV.ge
  have hr6 : w6.heap[gr]? = some (.cells #[.int .i64 0, .slice none 0 0] 44 (0, 0)) := by
    have h5 := rv_row h hV hd
    exact (hb.block gr (Array.getElem?_eq_some_iff.1 h5).1).trans h5
  have hV6 : RvI gr w6 w6 → True := fun _ => trivial
  obtain ⟨g1, g2⟩ := tn_glue h hV.low ⟨by omega, hlt⟩ hT hd ((Kept.of_below hb (own := fun j => j = gr ∨ w5.heap.size ≤ j)).trans' (put_kept (fun j => j = gr ∨ w5.heap.size ≤ j) (.inl rfl) (cmC (coE s L l.q M C)) a n cap))
  refine .inr ⟨rfl, ⟨a, n, cap, rfl, ?_⟩, g1, g2⟩
  rw [← hB]
  refine put_bts hm (fun hp p e hg => ?_) _ _ _ _
  obtain ⟨b0, off, e1, _, hc⟩ := hm.spot hp
  rw [e1] at e; cases e
  have hg : b0 = gr := hg
  subst hg
  have h0 := hc 0 hp
  rw [cell_of_row _ b0 _ _ _ (0, 0) hr6] at h0
  have hl2 : off + 0 < 2 := (Array.getElem?_eq_some_iff.1 h0).1
  rcases (show off = 0 ∨ off = 1 by omega) with rfl | rfl <;> cases h0
end
section
variable {A : Ad} {o : Nat → Nat → Prop} {w : World} {own : Nat → Prop} {l : Lm} {K : List Int} {s : DS} {L : LS} {M : List Pr} {E : List (List Int)} {Q : List Int} {tk : Option (Nat × List Int × List Int)} {vT : Value}
set_option maxHeartbeats 4000000 in
set_option maxRecDepth 100000 in
theorem put22_any (h : TnX A o w own l K s L M E Q tk vT) {N : Nat} (ht : Tbs N w) (hNo : ∀ j, own j → N ≤ j) (hby : ∀ k, Byt (valM M k)) (hv4 : ∀ k, (valM M k).length ≤ 4096) (hO : s.O.length ≤ 900000) (hu : byM M ≤ 1000000000000)
    (nm : ByteArray) (hnm : nm.size ≤ 1000000) (a : Option Addr) (n c : Nat) (b : List Int) (hb : Bts w a n c b) (hn : n ≤ 1000000) :
    Calls Tryz.prog 47 #[.pointer (some ⟨A.gt, 0, none⟩), .string nm, .slice a n c] w (AkP A own l K s L M E Q tk vT (putQ M nm b) w) := by
  have HF : Bx (putQ M nm b = if nameB nm = false then no 400 else if hasM M (kP cH nm) = true then no 409 else if 4096 < (valM M (kP cU nm)).length + b.length then no 413 else
  ⟨0, [⟨kP cU nm, false, valM M (kP cU nm) ++ b⟩], ((valM M (kP cU nm)).length + b.length : Nat)⟩) := ⟨rfl⟩
  have HV := Bx.mk (RvI.new w)
  obtain ⟨gr, HGR⟩ : ∃ gr, Bx (w.heap.size = gr) := ⟨_, ⟨rfl⟩⟩
  rw [HGR.out] at HV
  have HH := Bx.mk h
  have HT := Bx.mk (h.below HV.out.low)
  have HTB := Bx.mk (ht.below HV.out.low)
  have HB := Bx.mk (hb.below HV.out.low)
  have HBY := Bx.mk hby
  have HOU := Bx.mk (And.intro hO hu)
  have HV4 := Bx.mk hv4
  have HBL : Bx (b.length = n) := ⟨hb.len_eq⟩
  clear h ht hby hb hO hu hv4
  go_enter Tryz.func47, Tryz.ntmps47
  go_upto_region 1 with fail
  rw [HGR.out]
  generalize w.alloc (.cells #[.int .i64 0, .slice none 0 0] 44) = w1 at HV HT HTB HB ⊢
  go_wp2_with fail
  refine (name_any nm _ (by omega)).mono ?_
  rintro e wz ⟨rfl, hwz⟩
  subst hwz
  cases h1 : nameB nm with
  | false =>
    have HF4 : Bx (putQ M nm b = no 400) := ⟨by rw [HF.out, if_pos h1]⟩
    clear h1
    go_wp2_with fail
    refine (refused_any 400 _).mono ?_
    rintro e w9 ⟨rfl, hb9⟩
    have HV9 := Bx.mk (HV.out.step hb9)
    obtain ⟨x0, x1, f0, f1⟩ := HV9.out.cells
    clear hb9
    go_wp2_with fail
    exact bodyPost_ret (v := tdV 400 none 0 0) (by simp [results, Tryz.results47, go_sem, x0, x1]) rfl (akp_no HF4.out (by decide) ⟨none, 0, 0, rfl, bts_noneT _, HV9.out.put _ _ _ _⟩)
  | true =>
    rw [if_neg (by rw [h1]; decide)] at HF
    have hsz : ¬ 9223372036854775807 < 2 + nm.size := by omega
    have HN := Bx.mk h1
    clear h1
    go_wp2_with fail
    refine (has22_any HT.out HBY.out (kP cH nm)).mono ?_
    rintro e w2 ⟨rfl, hb2⟩
    have HV2 := Bx.mk (HV.out.step hb2)
    have HT2 := Bx.mk (HT.out.below hb2)
    have HTB2 := Bx.mk (HTB.out.below hb2)
    have HB2 := Bx.mk (HB.out.below hb2)
    clear hb2 HV HT HTB HB
    cases h2 : hasM M (kP cH nm) with
    | true =>
      have HF4 : Bx (putQ M nm b = no 409) := ⟨by rw [HF.out, if_pos h2]⟩
      clear h2
      go_wp2_with fail
      refine (refused_any 409 _).mono ?_
      rintro e w9 ⟨rfl, hb9⟩
      have HV9 := Bx.mk (HV2.out.step hb9)
      obtain ⟨x0, x1, f0, f1⟩ := HV9.out.cells
      clear hb9
      go_wp2_with fail
      exact bodyPost_ret (v := tdV 409 none 0 0) (by simp [results, Tryz.results47, go_sem, x0, x1]) rfl (akp_no HF4.out (by decide) ⟨none, 0, 0, rfl, bts_noneT _, HV9.out.put _ _ _ _⟩)
    | false =>
      rw [if_neg (by rw [h2]; decide)] at HF
      have c4 := HT2.out.c4
      clear h2
      go_wp2_with fail
      refine (tn_get HT2.out HBY.out (kP cU nm)).mono ?_
      rintro e w3 ⟨aU, cU0, rfl, _, hmU, hb3⟩
      have HV3 := Bx.mk (HV2.out.step hb3)
      have HT3 := Bx.mk (HT2.out.below hb3)
      have HTB3 := Bx.mk (HTB2.out.below hb3)
      have HB3 := Bx.mk (HB2.out.below hb3)
      have HMU := Bx.mk hmU
      have hU := HV4.out (kP cU nm)
      rw [HBL.out] at HF
      obtain ⟨u, HU⟩ : ∃ u, Bx ((valM M (kP cU nm)).length = u) := ⟨_, ⟨rfl⟩⟩
      rw [HU.out] at HF HMU hU ⊢
      generalize hasM M (kP cU nm) = bU
      clear hb3 hmU HV2 HT2 HTB2 HB2 c4
      by_cases h3 : 4096 < u + n
      · have HF4 : Bx (putQ M nm b = no 413) := ⟨by rw [HF.out, if_pos h3]⟩
        have h3I : (4096 : Int) < (u : Int) + (n : Int) := by omega
        clear h3
        go_wp2_with fail
        refine (refused_any 413 _).mono ?_
        rintro e w9 ⟨rfl, hb9⟩
        have HV9 := Bx.mk (HV3.out.step hb9)
        obtain ⟨x0, x1, f0, f1⟩ := HV9.out.cells
        clear hb9
        go_wp2_with fail
        exact bodyPost_ret (v := tdV 413 none 0 0) (by simp [results, Tryz.results47, go_sem, x0, x1]) rfl (akp_no HF4.out (by decide) ⟨none, 0, 0, rfl, bts_noneT _, HV9.out.put _ _ _ _⟩)
      rw [if_neg h3] at HF
      have h3I : ¬ (4096 : Int) < (u : Int) + (n : Int) := by omega
      have hun : u + n ≤ 4096 := by omega
      clear h3
      have hrow4 := row2_new w3 (.slice aU u cU0) (.slice a n c) 34
      have hb4 : Below w3.heap.size w3 (w3.alloc (.cells #[.slice aU u cU0, .slice a n c] 34)) := (Below.refl _ _).alloc (Nat.le_refl _) _
      go_wp2_with fail
      have HV4' := Bx.mk (HV3.out.step hb4)
      have HT4 := Bx.mk (HT3.out.below hb4)
      have HTB4 := Bx.mk (HTB3.out.below hb4)
      have C4 := concat2_new w3.heap.size aU a u n cU0 c (valM M (kP cU nm)) b (w3.alloc (.cells #[.slice aU u cU0, .slice a n c] 34)) (cell_of_row _ _ 0 _ _ (0, 0) hrow4) (cell_of_row _ _ 1 _ _ (0, 0) hrow4) (Array.getElem?_eq_some_iff.1 hrow4).1 (HMU.out.below hb4) (HB3.out.below hb4) (by omega)
      generalize w3.alloc (.cells #[.slice aU u cU0, .slice a n c] 34) = w4 at HV4' HT4 HTB4 C4 ⊢
      generalize w3.heap.size = g3 at C4 ⊢
      clear hrow4 hb4 HV3 HT3 HTB3 HB3 HMU
      refine C4.mono ?_
      rintro e w5 ⟨a5, c5, rfl, hm5, hn5, hb5⟩
      have HV5 := Bx.mk (HV4'.out.step hb5)
      have HT5 := Bx.mk (HT4.out.below hb5)
      have HTB5 := Bx.mk (HTB4.out.below hb5)
      have HM5 := Bx.mk hm5
      have HN5 : Bx (∀ p, a5 = some p → ¬ own p.block) := ⟨fun p e ho => by
        have h1 := hn5 p e
        have h2 := HT4.out.lt _ ho
        omega⟩
      clear C4 hm5 hn5 hb5 HV4' HT4 HTB4
      have hsum : IntKind.i64.wrap ((u : Int) + (n : Int)) = (u : Int) + (n : Int) := IntWalk.i64_in _ ⟨by omega, by omega⟩
      go_wp2_with fail
      refine (set22_any (kP cU nm) a5 (u + n) c5 _).mono ?_
      rintro e w6 ⟨rfl, hb6⟩
      have HV6 := Bx.mk (HV5.out.step hb6)
      have HT6 := Bx.mk (HT5.out.below hb6)
      have HTB6 := Bx.mk (HTB5.out.below hb6)
      have HM6 := Bx.mk (HM5.out.below hb6)
      clear hb6 HV5 HT5 HTB5 HM5
      have hbc := build_ch1 (kP cU nm) false a5 (u + n) c5
      have hb7 : Below w6.heap.size w6 (w6.alloc (.cells #[.string (kP cU nm), .bool false, .slice a5 (u + n) c5] 167)) := (Below.refl _ _).alloc (Nat.le_refl _) _
      have HC7 := Bx.mk (ct_one (k := kP cU nm) (d := false) (B := fun j => ¬ own j) HM6.out (fun _ p e => HN5.out p e) (fun ho => Nat.lt_irrefl _ (HT6.out.lt _ ho)))
      have HV7 := Bx.mk (HV6.out.step hb7)
      have HT7 := Bx.mk (HT6.out.below hb7)
      have HTB7 := Bx.mk (HTB6.out.below hb7)
      go_wp2_with fail
      generalize w6.alloc (.cells #[.string (kP cU nm), .bool false, .slice a5 (u + n) c5] 167) = w7 at HC7 HV7 HT7 HTB7 ⊢
      generalize w6.heap.size = g6 at HC7 ⊢
      clear hb7 hbc HV6 HT6 HTB6 HM6
      refine (commit22_any HT7.out (fun j => ¬ own j) _ 1 1 _ HC7.out (fun j hj => hj) (fun ch hch => by rw [List.mem_singleton.1 hch]; show (kP cU nm).size ≤ _; rw [kP_size]; omega) HOU.out.1 HOU.out.2).mono ?_
      rintro e w8 ⟨rfl, hT8, hd8⟩
      have HF5 : Bx (putQ M nm b = ⟨0, [⟨kP cU nm, false, valM M (kP cU nm) ++ b⟩], (u : Int) + (n : Int)⟩) := ⟨by
        have e : ((u + n : Nat) : Int) = (u : Int) + (n : Int) := by omega
        rw [HF.out, e]⟩
      generalize ([⟨kP cU nm, false, valM M (kP cU nm) ++ b⟩] : List Chg) = C at HC7 hT8 hd8 HF5 ⊢
      have HT8 := Bx.mk hT8
      have HD8 := Bx.mk hd8
      have HR8 := Bx.mk (rv_row HH.out HV7.out hd8)
      have HTN8 := Bx.mk (HTB7.out.did hd8 hNo).ten
      have hV64 : -9223372036854775808 ≤ (u : Int) + (n : Int) ∧ (u : Int) + (n : Int) ≤ 9223372036854775807 := by omega
      clear hT8 hd8
      obtain ⟨st, HST⟩ : ∃ st, Bx (cmC (coE s L l.q M C) = st) := ⟨_, ⟨rfl⟩⟩
      rw [HST.out]
      go_wp2_with fail
      refine (counted22_any ((u : Int) + (n : Int)) st hV64 _ HTN8.out).mono ?_
      rintro e w9 ⟨a9, m9, c9, rfl, hm9, hb9⟩
      have HR9 := Bx.mk ((hb9.block gr (Array.getElem?_eq_some_iff.1 HR8.out).1).trans HR8.out)
      obtain ⟨x0, x1, f0, f1⟩ := rv_cells HR9.out
      have HFIN := Bx.mk (akp_yes HH.out HF5.out HV7.out HT8.out HD8.out hb9 hm9 (by rw [HST.out]))
      rw [HST.out] at HFIN
      clear hm9 hb9
      go_wp2_with fail
      exact bodyPost_ret (v := tdV st a9 m9 c9) (by simp [results, Tryz.results47, go_sem, x0, x1]) rfl HFIN.out
end
end Go.Proofs.YtipakjenggeflaaGreatDoor
namespace Go.Proofs.YtipakjenggeflaaGreatDoor
open Go.RowKit
set_option linter.unusedVariables false

abbrev askV (a : As) (ab : Option Addr) (n c : Nat) : Array Value := #[.int .i64 a.k, .string a.nm, .string a.sp, .slice ab n c, .int .i64 a.A, .int .i64 a.B]
end Go.Proofs.YtipakjenggeflaaGreatDoor
namespace Go.Proofs.YtipakjenggeflaaGreatDoor
open Go.RowKit
set_option linter.unusedVariables false

/-- whose block is whose -/
def famN (oD oL oS oG : Nat → Prop) (gq gt : Nat) : Nat → Nat → Prop := fun i j => (i = 1 ∧ oD j) ∨ (i = 2 ∧ oL j) ∨ (i = 3 ∧ oS j) ∨ (i = 4 ∧ oG j) ∨ (i = 5 ∧ j = gq) ∨ (i = 7 ∧ j = gt)
section
variable {oD oL oS oG : Nat → Prop} {gq gt : Nat}
set_option maxRecDepth 100000 in
theorem fam1 : famN oD oL oS oG gq gt 1 = oD := by funext j; unfold famN; simp
set_option maxRecDepth 100000 in
theorem fam2 : famN oD oL oS oG gq gt 2 = oL := by funext j; unfold famN; simp
set_option maxRecDepth 100000 in
theorem fam3 : famN oD oL oS oG gq gt 3 = oS := by funext j; unfold famN; simp
set_option maxRecDepth 100000 in
theorem fam4 : famN oD oL oS oG gq gt 4 = oG := by funext j; unfold famN; simp
set_option maxRecDepth 100000 in
/-- the parts of a new tenant lie apart -/
theorem tnx_new {w : World} {gd gl gs gg n1 : Nat} {l : Lm} {K : List Int} {s : DS} {L : LS} {M : List Pr} (hT : Tri w gd gl gs oD oL oS s L l.q M) (hG : Lg w oG gg K []) (hQ : Qm w gq 8 [])
    (hr : w.heap[gt]? = some (.cells (tnA ⟨gd, gl, gs, gg, gq, gt⟩ l (.pointer none)) 84 (0, 0))) (h1 : ∀ j, oD j ∨ oL j ∨ oS j → j < n1) (h2 : n1 ≤ gq ∧ n1 ≤ gt ∧ gq ≠ gt) (h3 : ∀ j, oG j → n1 ≤ j ∧ j ≠ gq ∧ j ≠ gt) (hq : gq < w.heap.size) :
    TnX ⟨gd, gl, gs, gg, gq, gt⟩ (famN oD oL oS oG gq gt) w (fun j => ∃ i, famN oD oL oS oG gq gt i j) l K s L M [] [] none (.pointer none) := by
  refine ⟨by rw [fam1, fam2, fam3]; exact hT, by rw [fam4]; exact hG, hQ, by unfold famN; simp, rfl, hr, by unfold famN; simp, ?_, fun i j hj => ⟨i, hj⟩, fun j hj => ?_⟩
  · intro i i' j a b
    have ld := hT.ld j
    have sd := hT.sd j
    have sl := hT.sl j
    have g1 := h1 j
    have g3 := h3 j
    unfold famN at a b
    rcases a with ⟨e, a⟩ | ⟨e, a⟩ | ⟨e, a⟩ | ⟨e, a⟩ | ⟨e, a⟩ | ⟨e, a⟩ <;> rcases b with ⟨e', b⟩ | ⟨e', b⟩ | ⟨e', b⟩ | ⟨e', b⟩ | ⟨e', b⟩ | ⟨e', b⟩ <;> first
      | (exact e.trans e'.symm)
      | (exfalso; first | exact ld b a | exact ld a b | exact sd b a | exact sd a b | exact sl b a | exact sl a b
                        | (have := g1 (.inl a); have := g3 b; omega) | (have := g1 (.inr (.inl a)); have := g3 b; omega) | (have := g1 (.inr (.inr a)); have := g3 b; omega)
                        | (have := g1 (.inl b); have := g3 a; omega) | (have := g1 (.inr (.inl b)); have := g3 a; omega) | (have := g1 (.inr (.inr b)); have := g3 a; omega)
                        | (have := g1 (.inl a); omega) | (have := g1 (.inr (.inl a)); omega) | (have := g1 (.inr (.inr a)); omega)
                        | (have := g1 (.inl b); omega) | (have := g1 (.inr (.inl b)); omega) | (have := g1 (.inr (.inr b)); omega)
                        | (have := g3 a; omega) | (have := g3 b; omega) | omega)
  · obtain ⟨i, hj⟩ := hj
    unfold famN at hj
    rcases hj with ⟨_, a⟩ | ⟨_, a⟩ | ⟨_, a⟩ | ⟨_, a⟩ | ⟨_, a⟩ | ⟨_, a⟩
    · exact hT.d.lt j a
    · exact hT.l.lt j a
    · exact hT.t.lt j a
    · exact hG.lt j a
    · omega
    · rw [a]; exact (Array.getElem?_eq_some_iff.1 hr).1
end
/-- a disk's new tenant -/
def newX (n : Nat) : TX := ⟨dnew n, lgs [], ⟨[], [], []⟩⟩
end Go.Proofs.YtipakjenggeflaaGreatDoor
namespace Go.Proofs.YtipakjenggeflaaGreatDoor
open Go.ChangeShapes Go.WideShapes Go.ChangeAt Go.RowKit

/-- an ask that came in -/
structure AskI (w : World) (a : As) (ab : Option Addr) (n c : Nat) : Prop where
  b : Bts w ab n c a.b
  k : V64 a.k
  A : V64 a.A
  B : V64 a.B
  nm : a.nm.size ≤ maxLen
  sp : a.sp.size ≤ maxLen
set_option maxRecDepth 100000 in
theorem AskI.below {w w' : World} {a : As} {ab : Option Addr} {n c : Nat} (h : AskI w a ab n c) (hb : Below w.heap.size w w') : AskI w' a ab n c := ⟨h.b.below hb, h.k, h.A, h.B, h.nm, h.sp⟩
def as0 : As := ⟨0, ⟨#[]⟩, ⟨#[]⟩, [], 0, 0⟩
section
variable {H : Type} {enc : TypeId × Value → H} {W : World} {held : Bool} {bs : Nat}
set_option maxRecDepth 100000 in
theorem cell_strT {fuel : Nat} {v : Value} {x : DataW H × List MemPlace} {sp : Nat → Bool} (h : DataW.trod enc Tryz.prog W bs sp held fuel 9 [v] = some x) : ∃ s : ByteArray, v = .string s ∧ s.size ≤ maxLen := by
  obtain ⟨s, h1, _, h3⟩ := DataW.trod_string Tryz.underlying9 h
  exact ⟨s, by simpa using h1, h3⟩
set_option maxRecDepth 100000 in
theorem cells_ask {fuel : Nat} {cs : List Value} {x : DataW H × List MemPlace} (h : DataW.trod enc Tryz.prog W bs (fun _ => true) held fuel 36 cs = some x) : ∃ a ab n c, cs = (askV a ab n c).toList ∧ AskI W a ab n c := by
  have hC : Tryz.prog.cellsOf 36 = 6 := by kernel_rfl
  have q1 : Tryz.prog.cellsOf 3 = 1 := by kernel_rfl
  have q2 : Tryz.prog.cellsOf 9 = 1 := by kernel_rfl
  have q3 : Tryz.prog.cellsOf 34 = 1 := by kernel_rfl
  obtain ⟨xs, n', _, _, hlen, hlen2, hf2⟩ := DataW.trod_struct Tryz.underlying36 h
  rw [hC] at hlen
  match xs, hlen2, cs, hlen with
  | [y0, y1, y2, y3, y4, y5], _, [v0, v1, v2, v3, v4, v5], _ =>
    have h0 := hf2 0 _ rfl
    have h1 := hf2 1 _ rfl
    have h2 := hf2 2 _ rfl
    have h3 := hf2 3 _ rfl
    have h4 := hf2 4 _ rfl
    have h5 := hf2 5 _ rfl
    obtain ⟨n0, rfl, b0⟩ := cell_int (v := v0) (by simpa [q1] using h0)
    obtain ⟨s1, rfl, b1⟩ := cell_strT (v := v1) (by simpa [q2] using h1)
    obtain ⟨s2, rfl, b2⟩ := cell_strT (v := v2) (by simpa [q2] using h2)
    obtain ⟨a3, l3, c3, z, rfl, hz⟩ := cell_bytes (v := v3) (by simpa [q3] using h3)
    obtain ⟨n4, rfl, b4⟩ := cell_int (v := v4) (by simpa [q1] using h4)
    obtain ⟨n5, rfl, b5⟩ := cell_int (v := v5) (by simpa [q1] using h5)
    exact ⟨⟨n0, s1, s2, z, n4, n5⟩, a3, l3, c3, rfl, hz, b0, b4, b5, b1, b2⟩
set_option maxRecDepth 100000 in
theorem open_ask {base : Nat} {v : Value} {d : DataW H} {p : List MemPlace}
    (hv : Value.okWide Tryz.prog W .any base 36 v) (h : DataW.Trod enc Tryz.prog W bs (fun _ => true) held 36 v d p) : ∃ a ab n c, v = .agg (askV a ab n c) ∧ AskI W a ab n c := by
  obtain ⟨cs, rfl, hsz⟩ := okWide_struct Tryz.underlying36 hv
  obtain ⟨fuel, hf⟩ := h
  obtain ⟨a, ab, n, c, e, hI⟩ := cells_ask hf
  refine ⟨a, ab, n, c, ?_, hI⟩
  have e2 : cs.toList = (askV a ab n c).toList := e
  rw [Array.toList_inj.1 e2]
end
end Go.Proofs.YtipakjenggeflaaGreatDoor
namespace Go.Proofs.YtipakjenggeflaaGreatDoor
open Go.RowKit
set_option linter.unusedVariables false

/-- a text's beginning -/
def ctT (s : ByteArray) (n : Nat) : ByteArray := if n < s.size then s.extract 0 n else s
set_option maxRecDepth 100000 in
theorem ctT_size (s : ByteArray) (n : Nat) : (ctT s n).size ≤ n := by
  unfold ctT
  split
  · rw [Lib.size_eq, Lib.extract_data, List.length_take]; omega
  · omega
set_option maxRecDepth 100000 in
theorem ctT_id {s : ByteArray} {n : Nat} (h : s.size ≤ n) : ctT s n = s := by unfold ctT; rw [if_neg (by omega)]
set_option maxRecDepth 100000 in
theorem scutT (s : ByteArray) (n : Nat) (w : World) (hs : s.size ≤ 9223372036854775807) :
    Calls Tryz.prog 37 #[.string s, .int .i64 n] w fun e w' => e = .returned (.string (ctT s n)) ∧ w' = w := by
  by_cases h : n < s.size
  · have hi : (n : Int) < (s.size : Int) := by omega
    have hi2 : (n : Int) ≤ (s.size : Int) := by omega
    have HZ : Bx (ctT s n = s.extract 0 n) := ⟨by unfold ctT; rw [if_pos h]⟩
    clear h
    go_enter Tryz.func37, Tryz.ntmps37
    go_wp2
    go_ret
    exact ⟨by rw [HZ.out]; rfl, rfl⟩
  · have hi : ¬ (n : Int) < (s.size : Int) := by omega
    have HZ : Bx (ctT s n = s) := ⟨by unfold ctT; rw [if_neg h]⟩
    clear h
    go_enter Tryz.func37, Tryz.ntmps37
    go_wp2
    go_ret
    exact ⟨by rw [HZ.out]; rfl, rfl⟩
/-- what is asked, cut -/
def ctA (a : As) : As := ⟨a.k, ctT a.nm 30, ctT a.sp 30, a.b.take 4200, a.A, a.B⟩
abbrev askZ : Array Value := #[.int .i64 0, .string ⟨#[]⟩, .string ⟨#[]⟩, .slice none 0 0, .int .i64 0, .int .i64 0]
set_option maxRecDepth 100000 in
theorem ask_info22 : (Tryz.prog.info? 36).map (·.size) = some 6 := by kernel_rfl
set_option maxRecDepth 100000 in
/-- two texts are written -/
theorem two_setA {w wk : World} {k A B : Int} {m t : ByteArray} {v : Value} (hr : wk.heap[w.heap.size]? = some (.cells #[.int .i64 k, .string m, .string t, v, .int .i64 A, .int .i64 B] 36 (0, 0))) (hb : Below w.heap.size w wk) (m2 t2 : ByteArray) :
    ((wk.setCell ⟨w.heap.size, 1, none⟩ (.string m2)).cell? ⟨w.heap.size, 2, none⟩ = some (.string t) ∧ (wk.setCell ⟨w.heap.size, 1, none⟩ (.string m2)).frozen? ⟨w.heap.size, 2, none⟩ = false) ∧
    ((wk.setCell ⟨w.heap.size, 1, none⟩ (.string m2)).setCell ⟨w.heap.size, 2, none⟩ (.string t2)).heap[w.heap.size]? = some (.cells #[.int .i64 k, .string m2, .string t2, v, .int .i64 A, .int .i64 B] 36 (0, 0)) ∧
    Below w.heap.size w ((wk.setCell ⟨w.heap.size, 1, none⟩ (.string m2)).setCell ⟨w.heap.size, 2, none⟩ (.string t2)) ∧ ∀ j, j ≠ w.heap.size → ((wk.setCell ⟨w.heap.size, 1, none⟩ (.string m2)).setCell ⟨w.heap.size, 2, none⟩ (.string t2)).heap[j]? = wk.heap[j]? := by
  have h1 := heap_setCell_same wk w.heap.size 1 _ _ (.string m2) hr
  have h2 := heap_setCell_same _ w.heap.size 2 _ _ (.string t2) h1
  refine ⟨⟨by rw [cell_of_row _ _ 2 _ _ (0, 0) h1]; rfl, frozen_of_row _ _ 2 _ _ h1⟩, h2, ?_, fun j hj => ?_⟩
  · exact below_setCells (vs := [.string t2]) (o := 2) (below_setCells (vs := [.string m2]) (o := 1) hb _ (Nat.le_refl _)) _ (Nat.le_refl _)
  · exact (setCells_other (vs := [.string t2]) (o := 2) hj).trans (setCells_other (vs := [.string m2]) (o := 1) hj)
set_option maxRecDepth 100000 in
set_option maxHeartbeats 4000000 in
set_option maxRecDepth 100000 in
theorem acut_any (x : As) (ab : Option Addr) (n c : Nat) (w : World) (hx : AskI w x ab n c) :
    Calls Tryz.prog 12 #[.agg (askV x ab n c)] w fun e w' => ∃ a' m' c', e = .returned (.agg (askV (ctA x) a' m' c')) ∧ Bts w' a' m' c' (ctA x).b ∧ (∀ p, a' = some p → w.heap.size ≤ p.block) ∧ m' ≤ 4200 ∧ Below w.heap.size w w' := by
  have hb := hx.b
  have hB1 : Below w.heap.size w ((w.alloc (.cells #[.int .i64 x.k, .string x.nm, .string x.sp, .slice ab n c, .int .i64 x.A, .int .i64 x.B] 36)).alloc (.cells askZ 36)) := ((Below.refl _ _).alloc (Nat.le_refl _) _).alloc (by simp) _
  have C1 : Hid (∀ W, Calls Tryz.prog 37 #[.string x.nm, .int .i64 30] W fun e w' => e = .returned (.string (ctA x).nm) ∧ W = w') := fun W => (scutT x.nm 30 W (by have := hx.nm; unfold maxLen at this; omega)).mono fun e w' h => ⟨h.1, h.2.symm⟩
  have C2 : Hid (∀ W, Calls Tryz.prog 37 #[.string x.sp, .int .i64 30] W fun e w' => e = .returned (.string (ctA x).sp) ∧ W = w') := fun W => (scutT x.sp 30 W (by have := hx.sp; unfold maxLen at this; omega)).mono fun e w' h => ⟨h.1, h.2.symm⟩
  have HXB : Bx ((ctA x).b = x.b.take 4200 ∧ (ctA x).k = x.k ∧ (ctA x).A = x.A ∧ (ctA x).B = x.B) := ⟨⟨rfl, rfl, rfl, rfl⟩⟩
  obtain ⟨hROW, hRZ, _⟩ := two_new18 w (.cells #[.int .i64 x.k, .string x.nm, .string x.sp, .slice ab n c, .int .i64 x.A, .int .i64 x.B] 36) (.cells askZ 36)
  have HROW := Bx.mk hROW
  have HRZ := Bx.mk hRZ
  have HB := Bx.mk hb
  have HB1 := Bx.mk hB1
  have HBK : Bx True := ⟨trivial⟩
  show Calls Tryz.prog 12 #[.agg #[.int .i64 x.k, .string x.nm, .string x.sp, .slice ab n c, .int .i64 x.A, .int .i64 x.B]] w fun e w' => ∃ a' m' c', e = .returned (.agg #[.int .i64 x.k, .string (ctA x).nm, .string (ctA x).sp, .slice a' m' c', .int .i64 x.A, .int .i64 x.B]) ∧ Bts w' a' m' c' (ctA x).b ∧ (∀ p, a' = some p → w.heap.size ≤ p.block) ∧ m' ≤ 4200 ∧ Below w.heap.size w w'
  generalize (ctA x).nm = m2 at *
  generalize (ctA x).sp = t2 at *
  generalize (ctA x).b = b2 at *
  generalize x.nm = xm at *
  generalize x.sp = xt at *
  generalize x.k = xk at *
  generalize x.A = xA at *
  generalize x.B = xB at *
  clear hx hb hB1 hROW hRZ
  generalize hw1 : (w.alloc (.cells #[.int .i64 xk, .string xm, .string xt, .slice ab n c, .int .i64 xA, .int .i64 xB] 36)).alloc (.cells askZ 36) = W1 at *
  unfold askZ at hw1
  go_enter Tryz.func12, Tryz.ntmps12
  go_upto_region 1 with fail
  clear hw1
  go_cut [] from 3 to 10 (fun wx => wx.heap[w.heap.size]? = some (.cells #[.int .i64 xk, .string m2, .string t2, .slice ab n c, .int .i64 xA, .int .i64 xB] 36 (0, 0)) ∧ Below w.heap.size w wx ∧ wx.heap[w.heap.size + 1]? = some (.cells askZ 36 (0, 0)))
  case first =>
    refine wp_region_held_drew (S := fun _ => True) (by kernel_rfl) trivial (fun _ => ?_)
    generalize hwd : W1.drew = wk at *
    replace HBK : Bx (Below w.heap.size w wk) := ⟨by rw [← hwd]; exact HB1.out.drew⟩
    have hr0 : wk.heap[w.heap.size]? = some (.cells #[.int .i64 xk, .string xm, .string xt, .slice ab n c, .int .i64 xA, .int .i64 xB] 36 (0, 0)) := by rw [← hwd]; exact HROW.out
    have hz0 : wk.heap[w.heap.size + 1]? = some (.cells askZ 36 (0, 0)) := by rw [← hwd]; exact HRZ.out
    clear hwd
    have c1 : wk.cell? ⟨w.heap.size, 1, none⟩ = some (.string xm) := by rw [cell_of_row wk w.heap.size 1 _ _ (0, 0) hr0]; rfl
    have c2 : wk.cell? ⟨w.heap.size, 2, none⟩ = some (.string xt) := by rw [cell_of_row wk w.heap.size 2 _ _ (0, 0) hr0]; rfl
    have f1 : wk.frozen? ⟨w.heap.size, 1, none⟩ = false := frozen_of_row _ _ 1 _ _ hr0
    obtain ⟨q1, q3, q4, q5⟩ := two_setA hr0 HBK.out m2 t2
    clear hr0
    refine wpAnyH_take (i := 0) (oi := ⟨some 3, .fieldAddr 36 (.tmp 1) 1, 0, "ref.go:280", #[], none⟩) (v := ?vact11) rfl (by kernel_rfl) (by kernel_rfl) (by kernel_rfl) (fun _ _ _ h => h) (Or.inl ⟨by rfl, ?yact11⟩) trivial ?ract11
    case yact11 => (intro w hSw; (try dsimp only at hSw); go_simp; first | done | with_reducible rfl)
    simp only [Act.put, List.setIfInBounds_toArray, List.set_cons_zero, List.set_cons_succ]
    refine wpAnyH_take (i := 3) (oi := ⟨some 6, .fieldAddr 36 (.tmp 1) 2, 0, "ref.go:280", #[], none⟩) (v := ?vact12) rfl (by kernel_rfl) (by kernel_rfl) (by kernel_rfl) (fun _ _ _ h => h) (Or.inl ⟨by rfl, ?yact12⟩) trivial ?ract12
    case yact12 => (intro w hSw; (try dsimp only at hSw); go_simp; first | done | with_reducible rfl)
    simp only [Act.put, List.setIfInBounds_toArray, List.set_cons_zero, List.set_cons_succ]
    refine wpAnyH_ready (rs := [1, 4]) (by decide +kernel) (by simp) ?_
    refine (AllReadyH.cons (o := ⟨some 4, .load 9 (.tmp 3), 9, "ref.go:280", #[⟨0, .data⟩], none⟩) rfl (fun K hK => ?_) (AllReadyH.cons (o := ⟨some 7, .load 9 (.tmp 6), 9, "ref.go:280", #[⟨3, .data⟩], none⟩) rfl (fun K hK => ?_) AllReadyH.nil))
    · rw [if_pos (by rfl)]
      go_simp
      refine hK.out _ _ trivial (fun _ => ?_)
      clear hK K
      try simp only [Act.put, List.setIfInBounds_toArray, List.set_cons_zero, List.set_cons_succ]
      refine wpAnyH_ready (rs := [2, 4]) (by decide +kernel) (by simp) ?_
      refine (AllReadyH.cons (o := ⟨some 5, .call { callee := .value (.func 37), args := #[.tmp 4, .const (Value.int IntKind.i64 30)], argTypes := #[9, 3] }, 9, "ref.go:280", #[⟨1, .data⟩], none⟩) rfl (fun K hK => ?_) (AllReadyH.cons (o := ⟨some 7, .load 9 (.tmp 6), 9, "ref.go:280", #[⟨3, .data⟩], none⟩) rfl (fun K hK => ?_) AllReadyH.nil))
      · go_simp
        refine (C1.out _).mono ?_
        rintro e1 w9 ⟨rfl, rfl⟩
        refine hK.out _ _ trivial (fun _ => ?_)
        clear hK K
        try simp only [Act.put, List.setIfInBounds_toArray, List.set_cons_zero, List.set_cons_succ]
        refine wpAnyH_ready (rs := [4]) (by decide +kernel) (by simp) ?_
        refine AllReadyH.cons (o := ⟨some 7, .load 9 (.tmp 6), 9, "ref.go:280", #[⟨3, .data⟩], none⟩) rfl (fun K hK => ?_) AllReadyH.nil
        rw [if_pos (by rfl)]
        go_simp
        refine hK.out _ _ trivial (fun _ => ?_)
        clear hK K
        try simp only [Act.put, List.setIfInBounds_toArray, List.set_cons_zero, List.set_cons_succ]
        refine wpAnyH_take (i := 6) (oi := ⟨some 9, .fieldAddr 36 (.tmp 1) 1, 0, "ref.go:280", #[⟨0, .phase⟩, ⟨1, .phase⟩, ⟨2, .phase⟩, ⟨3, .phase⟩, ⟨4, .phase⟩, { on := 5, ground := Ground.textOnly Departure.lateStoresUnsure }], none⟩) (v := ?vact15) rfl (by kernel_rfl) (by kernel_rfl) (by kernel_rfl) (fun _ _ _ h => h) (Or.inl ⟨by rfl, ?yact15⟩) trivial ?ract15
        case yact15 => (intro w hSw; (try dsimp only at hSw); go_simp; first | done | with_reducible rfl)
        simp only [Act.put, List.setIfInBounds_toArray, List.set_cons_zero, List.set_cons_succ]
        refine wpAnyH_ready (rs := [5]) (by decide +kernel) (by simp) ?_
        refine AllReadyH.cons (o := ⟨some 8, .call { callee := .value (.func 37), args := #[.tmp 7, .const (Value.int IntKind.i64 30)], argTypes := #[9, 3] }, 9, "ref.go:280", #[⟨4, .data⟩, ⟨2, .chain⟩], none⟩) rfl (fun K hK => ?_) AllReadyH.nil
        go_simp
        refine (C2.out _).mono ?_
        rintro e1 w9 ⟨rfl, rfl⟩
        refine hK.out _ _ trivial (fun _ => ?_)
        clear hK K
        try simp only [Act.put, List.setIfInBounds_toArray, List.set_cons_zero, List.set_cons_succ]
        refine wpAnyH_ready (rs := [7]) (by decide +kernel) (by simp) ?_
        refine AllReadyH.cons (o := ⟨none, .store 9 (.tmp 9) (.tmp 5), 0, "ref.go:280", #[⟨6, .data⟩, ⟨2, .data⟩, ⟨5, .chain⟩, ⟨0, .phase⟩, ⟨1, .phase⟩, ⟨2, .phase⟩, ⟨3, .phase⟩, ⟨4, .phase⟩, { on := 5, ground := Ground.textOnly Departure.lateStoresUnsure }], none⟩) rfl (fun K hK => ?_) AllReadyH.nil
        rw [if_pos (by rfl)]
        go_simp
        refine hK.out _ _ trivial (fun _ => ?_)
        clear hK K
        try simp only [Act.put, List.setIfInBounds_toArray, List.set_cons_zero, List.set_cons_succ]
        refine wpAnyH_take (i := 8) (oi := ⟨some 10, .fieldAddr 36 (.tmp 1) 2, 0, "ref.go:280", #[⟨0, .phase⟩, ⟨1, .phase⟩, ⟨2, .phase⟩, ⟨3, .phase⟩, ⟨4, .phase⟩, ⟨5, .phase⟩, ⟨6, .phase⟩, ⟨7, .phase⟩], none⟩) (v := ?vact17) rfl (by kernel_rfl) (by kernel_rfl) (by kernel_rfl) (fun _ _ _ h => h) (Or.inl ⟨by rfl, ?yact17⟩) trivial ?ract17
        case yact17 => (intro w hSw; (try dsimp only at hSw); go_simp; first | done | with_reducible rfl)
        simp only [Act.put, List.setIfInBounds_toArray, List.set_cons_zero, List.set_cons_succ]
        refine wpAnyH_ready (rs := [9]) (by decide +kernel) (by simp) ?_
        refine AllReadyH.cons (o := ⟨none, .store 9 (.tmp 10) (.tmp 8), 0, "ref.go:280", #[⟨8, .data⟩, ⟨5, .data⟩, ⟨7, .chain⟩, ⟨0, .phase⟩, ⟨1, .phase⟩, ⟨2, .phase⟩, ⟨3, .phase⟩, ⟨4, .phase⟩, ⟨5, .phase⟩, ⟨6, .phase⟩, ⟨7, .phase⟩], none⟩) rfl (fun K hK => ?_) AllReadyH.nil
        rw [if_pos (by rfl)]
        have p1 := q1.1
        have p2 := q1.2
        go_simp
        clear p1 p2
        refine hK.out _ _ trivial (fun _ => ?_)
        clear hK K
        try simp only [Act.put, List.setIfInBounds_toArray, List.set_cons_zero, List.set_cons_succ]
        refine wpAnyH_done (by decide +kernel) ?_ _
        go_wp2_with fail
        go_meet
        exact ⟨q3, q4, (q5 _ (by omega)).trans hz0⟩
      · rw [if_pos (by rfl)]
        go_simp
        refine hK.out _ _ trivial (fun _ => ?_)
        clear hK K
        try simp only [Act.put, List.setIfInBounds_toArray, List.set_cons_zero, List.set_cons_succ]
        refine wpAnyH_ready (rs := [2]) (by decide +kernel) (by simp) ?_
        refine AllReadyH.cons (o := ⟨some 5, .call { callee := .value (.func 37), args := #[.tmp 4, .const (Value.int IntKind.i64 30)], argTypes := #[9, 3] }, 9, "ref.go:280", #[⟨1, .data⟩], none⟩) rfl (fun K hK => ?_) AllReadyH.nil
        go_simp
        refine (C1.out _).mono ?_
        rintro e1 w9 ⟨rfl, rfl⟩
        refine hK.out _ _ trivial (fun _ => ?_)
        clear hK K
        try simp only [Act.put, List.setIfInBounds_toArray, List.set_cons_zero, List.set_cons_succ]
        refine wpAnyH_take (i := 6) (oi := ⟨some 9, .fieldAddr 36 (.tmp 1) 1, 0, "ref.go:280", #[⟨0, .phase⟩, ⟨1, .phase⟩, ⟨2, .phase⟩, ⟨3, .phase⟩, ⟨4, .phase⟩, { on := 5, ground := Ground.textOnly Departure.lateStoresUnsure }], none⟩) (v := ?vact110) rfl (by kernel_rfl) (by kernel_rfl) (by kernel_rfl) (fun _ _ _ h => h) (Or.inl ⟨by rfl, ?yact110⟩) trivial ?ract110
        case yact110 => (intro w hSw; (try dsimp only at hSw); go_simp; first | done | with_reducible rfl)
        simp only [Act.put, List.setIfInBounds_toArray, List.set_cons_zero, List.set_cons_succ]
        refine wpAnyH_ready (rs := [5]) (by decide +kernel) (by simp) ?_
        refine AllReadyH.cons (o := ⟨some 8, .call { callee := .value (.func 37), args := #[.tmp 7, .const (Value.int IntKind.i64 30)], argTypes := #[9, 3] }, 9, "ref.go:280", #[⟨4, .data⟩, ⟨2, .chain⟩], none⟩) rfl (fun K hK => ?_) AllReadyH.nil
        go_simp
        refine (C2.out _).mono ?_
        rintro e1 w9 ⟨rfl, rfl⟩
        refine hK.out _ _ trivial (fun _ => ?_)
        clear hK K
        try simp only [Act.put, List.setIfInBounds_toArray, List.set_cons_zero, List.set_cons_succ]
        refine wpAnyH_ready (rs := [7]) (by decide +kernel) (by simp) ?_
        refine AllReadyH.cons (o := ⟨none, .store 9 (.tmp 9) (.tmp 5), 0, "ref.go:280", #[⟨6, .data⟩, ⟨2, .data⟩, ⟨5, .chain⟩, ⟨0, .phase⟩, ⟨1, .phase⟩, ⟨2, .phase⟩, ⟨3, .phase⟩, ⟨4, .phase⟩, { on := 5, ground := Ground.textOnly Departure.lateStoresUnsure }], none⟩) rfl (fun K hK => ?_) AllReadyH.nil
        rw [if_pos (by rfl)]
        go_simp
        refine hK.out _ _ trivial (fun _ => ?_)
        clear hK K
        try simp only [Act.put, List.setIfInBounds_toArray, List.set_cons_zero, List.set_cons_succ]
        refine wpAnyH_take (i := 8) (oi := ⟨some 10, .fieldAddr 36 (.tmp 1) 2, 0, "ref.go:280", #[⟨0, .phase⟩, ⟨1, .phase⟩, ⟨2, .phase⟩, ⟨3, .phase⟩, ⟨4, .phase⟩, ⟨5, .phase⟩, ⟨6, .phase⟩, ⟨7, .phase⟩], none⟩) (v := ?vact112) rfl (by kernel_rfl) (by kernel_rfl) (by kernel_rfl) (fun _ _ _ h => h) (Or.inl ⟨by rfl, ?yact112⟩) trivial ?ract112
        case yact112 => (intro w hSw; (try dsimp only at hSw); go_simp; first | done | with_reducible rfl)
        simp only [Act.put, List.setIfInBounds_toArray, List.set_cons_zero, List.set_cons_succ]
        refine wpAnyH_ready (rs := [9]) (by decide +kernel) (by simp) ?_
        refine AllReadyH.cons (o := ⟨none, .store 9 (.tmp 10) (.tmp 8), 0, "ref.go:280", #[⟨8, .data⟩, ⟨5, .data⟩, ⟨7, .chain⟩, ⟨0, .phase⟩, ⟨1, .phase⟩, ⟨2, .phase⟩, ⟨3, .phase⟩, ⟨4, .phase⟩, ⟨5, .phase⟩, ⟨6, .phase⟩, ⟨7, .phase⟩], none⟩) rfl (fun K hK => ?_) AllReadyH.nil
        rw [if_pos (by rfl)]
        have p1 := q1.1
        have p2 := q1.2
        go_simp
        clear p1 p2
        refine hK.out _ _ trivial (fun _ => ?_)
        clear hK K
        try simp only [Act.put, List.setIfInBounds_toArray, List.set_cons_zero, List.set_cons_succ]
        refine wpAnyH_done (by decide +kernel) ?_ _
        go_wp2_with fail
        go_meet
        exact ⟨q3, q4, (q5 _ (by omega)).trans hz0⟩
    · rw [if_pos (by rfl)]
      go_simp
      refine hK.out _ _ trivial (fun _ => ?_)
      clear hK K
      try simp only [Act.put, List.setIfInBounds_toArray, List.set_cons_zero, List.set_cons_succ]
      refine wpAnyH_ready (rs := [1]) (by decide +kernel) (by simp) ?_
      refine AllReadyH.cons (o := ⟨some 4, .load 9 (.tmp 3), 9, "ref.go:280", #[⟨0, .data⟩], none⟩) rfl (fun K hK => ?_) AllReadyH.nil
      rw [if_pos (by rfl)]
      go_simp
      refine hK.out _ _ trivial (fun _ => ?_)
      clear hK K
      try simp only [Act.put, List.setIfInBounds_toArray, List.set_cons_zero, List.set_cons_succ]
      refine wpAnyH_ready (rs := [2]) (by decide +kernel) (by simp) ?_
      refine AllReadyH.cons (o := ⟨some 5, .call { callee := .value (.func 37), args := #[.tmp 4, .const (Value.int IntKind.i64 30)], argTypes := #[9, 3] }, 9, "ref.go:280", #[⟨1, .data⟩], none⟩) rfl (fun K hK => ?_) AllReadyH.nil
      go_simp
      refine (C1.out _).mono ?_
      rintro e1 w9 ⟨rfl, rfl⟩
      refine hK.out _ _ trivial (fun _ => ?_)
      clear hK K
      try simp only [Act.put, List.setIfInBounds_toArray, List.set_cons_zero, List.set_cons_succ]
      refine wpAnyH_take (i := 6) (oi := ⟨some 9, .fieldAddr 36 (.tmp 1) 1, 0, "ref.go:280", #[⟨0, .phase⟩, ⟨1, .phase⟩, ⟨2, .phase⟩, ⟨3, .phase⟩, ⟨4, .phase⟩, { on := 5, ground := Ground.textOnly Departure.lateStoresUnsure }], none⟩) (v := ?vact116) rfl (by kernel_rfl) (by kernel_rfl) (by kernel_rfl) (fun _ _ _ h => h) (Or.inl ⟨by rfl, ?yact116⟩) trivial ?ract116
      case yact116 => (intro w hSw; (try dsimp only at hSw); go_simp; first | done | with_reducible rfl)
      simp only [Act.put, List.setIfInBounds_toArray, List.set_cons_zero, List.set_cons_succ]
      refine wpAnyH_ready (rs := [5]) (by decide +kernel) (by simp) ?_
      refine AllReadyH.cons (o := ⟨some 8, .call { callee := .value (.func 37), args := #[.tmp 7, .const (Value.int IntKind.i64 30)], argTypes := #[9, 3] }, 9, "ref.go:280", #[⟨4, .data⟩, ⟨2, .chain⟩], none⟩) rfl (fun K hK => ?_) AllReadyH.nil
      go_simp
      refine (C2.out _).mono ?_
      rintro e1 w9 ⟨rfl, rfl⟩
      refine hK.out _ _ trivial (fun _ => ?_)
      clear hK K
      try simp only [Act.put, List.setIfInBounds_toArray, List.set_cons_zero, List.set_cons_succ]
      refine wpAnyH_ready (rs := [7]) (by decide +kernel) (by simp) ?_
      refine AllReadyH.cons (o := ⟨none, .store 9 (.tmp 9) (.tmp 5), 0, "ref.go:280", #[⟨6, .data⟩, ⟨2, .data⟩, ⟨5, .chain⟩, ⟨0, .phase⟩, ⟨1, .phase⟩, ⟨2, .phase⟩, ⟨3, .phase⟩, ⟨4, .phase⟩, { on := 5, ground := Ground.textOnly Departure.lateStoresUnsure }], none⟩) rfl (fun K hK => ?_) AllReadyH.nil
      rw [if_pos (by rfl)]
      go_simp
      refine hK.out _ _ trivial (fun _ => ?_)
      clear hK K
      try simp only [Act.put, List.setIfInBounds_toArray, List.set_cons_zero, List.set_cons_succ]
      refine wpAnyH_take (i := 8) (oi := ⟨some 10, .fieldAddr 36 (.tmp 1) 2, 0, "ref.go:280", #[⟨0, .phase⟩, ⟨1, .phase⟩, ⟨2, .phase⟩, ⟨3, .phase⟩, ⟨4, .phase⟩, ⟨5, .phase⟩, ⟨6, .phase⟩, ⟨7, .phase⟩], none⟩) (v := ?vact118) rfl (by kernel_rfl) (by kernel_rfl) (by kernel_rfl) (fun _ _ _ h => h) (Or.inl ⟨by rfl, ?yact118⟩) trivial ?ract118
      case yact118 => (intro w hSw; (try dsimp only at hSw); go_simp; first | done | with_reducible rfl)
      simp only [Act.put, List.setIfInBounds_toArray, List.set_cons_zero, List.set_cons_succ]
      refine wpAnyH_ready (rs := [9]) (by decide +kernel) (by simp) ?_
      refine AllReadyH.cons (o := ⟨none, .store 9 (.tmp 10) (.tmp 8), 0, "ref.go:280", #[⟨8, .data⟩, ⟨5, .data⟩, ⟨7, .chain⟩, ⟨0, .phase⟩, ⟨1, .phase⟩, ⟨2, .phase⟩, ⟨3, .phase⟩, ⟨4, .phase⟩, ⟨5, .phase⟩, ⟨6, .phase⟩, ⟨7, .phase⟩], none⟩) rfl (fun K hK => ?_) AllReadyH.nil
      rw [if_pos (by rfl)]
      have p1 := q1.1
      have p2 := q1.2
      go_simp
      clear p1 p2
      refine hK.out _ _ trivial (fun _ => ?_)
      clear hK K
      try simp only [Act.put, List.setIfInBounds_toArray, List.set_cons_zero, List.set_cons_succ]
      refine wpAnyH_done (by decide +kernel) ?_ _
      go_wp2_with fail
      go_meet
      exact ⟨q3, q4, (q5 _ (by omega)).trans hz0⟩
  case rest =>
    obtain ⟨hrx, hbx, hzx⟩ := hcut
    have c3 : wc.cell? ⟨w.heap.size, 3, none⟩ = some (.slice ab n c) := by rw [cell_of_row wc w.heap.size 3 _ _ (0, 0) hrx]; rfl
    have HRX := Bx.mk hrx
    have HBX := Bx.mk hbx
    have HZX := Bx.mk hzx
    have HBB := Bx.mk (HB.out.below hbx)
    clear hrx hbx hzx
    go_wp2_with fail
    refine (cut_any ab n c 4200 x.b _ HBB.out (by decide)).mono ?_
    rintro e w2 ⟨⟨len, rfl, hl⟩, hw2⟩
    subst hw2
    have hlen : len ≤ 4200 := by have := hl.len_eq; rw [List.length_take] at this; omega
    have HL := Bx.mk hl
    have HLE := Bx.mk hlen
    clear hl
    go_wp2_with fail
    refine (copy_any ab len c _ _ HL.out (by omega)).mono ?_
    rintro e w3 ⟨v, rfl, hown, hb3⟩
    obtain ⟨av, cv, hv, hbv⟩ := Bts.of_owns (l := x.b.take 4200) (by rw [← HL.out.len_eq] at hown; exact hown) HL.out.byt
    subst hv
    rw [HL.out.len_eq] at hbv hown ⊢
    have hr3 : w3.heap[w.heap.size]? = some (.cells #[.int .i64 xk, .string m2, .string t2, .slice ab n c, .int .i64 xA, .int .i64 xB] 36 (0, 0)) := by rw [hb3.block _ (Array.getElem?_eq_some_iff.1 HRX.out).1]; exact HRX.out
    have hz3 : w3.heap[w.heap.size + 1]? = some (.cells askZ 36 (0, 0)) := by rw [hb3.block _ (Array.getElem?_eq_some_iff.1 HZX.out).1]; exact HZX.out
    have k3 : w3.cell? ⟨w.heap.size, 3, none⟩ = some (.slice ab n c) := by rw [cell_of_row w3 w.heap.size 3 _ _ (0, 0) hr3]; rfl
    have f3 : w3.frozen? ⟨w.heap.size, 3, none⟩ = false := frozen_of_row _ _ 3 _ _ hr3
    have hX3 : (w3.setCell ⟨w.heap.size, 3, none⟩ (.slice av len cv)).heap[w.heap.size]? = some (.cells #[.int .i64 xk, .string m2, .string t2, .slice av len cv, .int .i64 xA, .int .i64 xB] 36 (0, 0)) := heap_setCell_same w3 w.heap.size 3 _ _ _ hr3
    have hZ3 : (w3.setCell ⟨w.heap.size, 3, none⟩ (.slice av len cv)).heap[w.heap.size + 1]? = some (.cells askZ 36 (0, 0)) := (setCells_other (vs := [.slice av len cv]) (o := 3) (by omega)).trans hz3
    have hB3 : Below w.heap.size w (w3.setCell ⟨w.heap.size, 3, none⟩ (.slice av len cv)) := below_setCells (vs := [.slice av len cv]) (o := 3) (bstep HBX.out hb3) _ (Nat.le_refl _)
    have hge : ∀ p, av = some p → wc.heap.size ≤ p.block := fun p hp => by
      rcases hown.2 with ⟨h1, _⟩ | ⟨g', cap', cur, h1, h2, _⟩
      · have h9 := (Value.slice.inj h1).1; rw [hp] at h9; cases h9
      · have h9 := (Value.slice.inj h1).1; rw [hp] at h9; cases h9; exact h2
    have hV3 : Bts (w3.setCell ⟨w.heap.size, 3, none⟩ (.slice av len cv)) av len cv (x.b.take 4200) := hbv.keep (fun _ p hp => setCells_other (vs := [.slice av len cv]) (o := 3) (fun e => by have h1 := hge p hp; have h2 := (Array.getElem?_eq_some_iff.1 HRX.out).1; omega)) (by simp [World.setCell])
    have HTR : Bx ((w3.setCell ⟨w.heap.size, 3, none⟩ (.slice av len cv)).there (w.heap.size + 1) 0 6) := ⟨there_row hZ3⟩
    have HST : Bx (((w3.setCell ⟨w.heap.size, 3, none⟩ (.slice av len cv)).setCells (w.heap.size + 1) 0 #[.int .i64 xk, .string m2, .string t2, .slice av len cv, .int .i64 xA, .int .i64 xB].toList).heap[w.heap.size + 1]? = some (.cells #[.int .i64 xk, .string m2, .string t2, .slice av len cv, .int .i64 xA, .int .i64 xB] 36 (0, 0))) := ⟨heap_stored hZ3 rfl⟩
    have HFB : Bx (Below w.heap.size w ((w3.setCell ⟨w.heap.size, 3, none⟩ (.slice av len cv)).setCells (w.heap.size + 1) 0 #[.int .i64 xk, .string m2, .string t2, .slice av len cv, .int .i64 xA, .int .i64 xB].toList)) := ⟨below_setCells hB3 _ (by omega) _ 0⟩
    have HFV : Bx (Bts ((w3.setCell ⟨w.heap.size, 3, none⟩ (.slice av len cv)).setCells (w.heap.size + 1) 0 #[.int .i64 xk, .string m2, .string t2, .slice av len cv, .int .i64 xA, .int .i64 xB].toList) av len cv (x.b.take 4200)) := ⟨hV3.keep (fun _ p hp => setCells_other (fun e => by have h1 := hge p hp; have h2 := (Array.getElem?_eq_some_iff.1 HZX.out).1; omega) _ _) (by rw [setCells_size]; exact Nat.le_refl _)⟩
    have HX3 := Bx.mk hX3
    have HGE : Bx (∀ p, av = some p → w.heap.size ≤ p.block) := ⟨fun p hp => Nat.le_trans HBX.out.size (hge p hp)⟩
    have HONE : Bx ((#[.int .i64 xk, .string m2, .string t2, .slice av len cv, .int .i64 xA, .int .i64 xB] : Array Value).all (·.oneCell') = true) := ⟨by simp [Value.oneCell']⟩
    rw [← HXB.out.1] at *
    clear hX3 hZ3 hB3 hge hV3 hr3 hz3 hown hb3 hbv hlen
    go_wp2_with (first
      | (refine wpList_load_row rfl 36 (.tmp 1) rfl w.heap.size rfl 36 #[.int .i64 xk, .string m2, .string t2, .slice av len cv, .int .i64 xA, .int .i64 xB] (0, 0) _ HX3.out Tryz.underlying36 rfl ask_info22 ?_)
      | (refine wpList_store_mid rfl 36 (.tmp 2) (.tmp 16) rfl (w.heap.size + 1) 0 #[.int .i64 xk, .string m2, .string t2, .slice av len cv, .int .i64 xA, .int .i64 xB] rfl rfl HTR.out ask_info22 HONE.out ?_))
    exact bodyPost_ret (v := .agg #[.int .i64 xk, .string m2, .string t2, .slice av len cv, .int .i64 xA, .int .i64 xB]) (results_cell_row rfl _ _ (w.heap.size + 1) 36 _ (0, 0) _ rfl HST.out Tryz.underlying36 rfl ask_info22) rfl ⟨av, len, cv, rfl, HFV.out, HGE.out, HLE.out, HFB.out⟩
end Go.Proofs.YtipakjenggeflaaGreatDoor
