/- Open of a disk that is new. That an upload is done; what comes of no disk. -/
import Derived.Test.YtipakjenggeflaaGreatDoorPkax
import Derived.Test.YtipakjenggeflaaGreatDoorPkaa
import Derived.Test.YtipakjenggeflaaGreatDoorPkae
import Derived.Test.YtipakjenggeflaaGreatDoorPkaf
import Derived.Test.YtipakjenggeflaaGreatDoorPkas
import Derived.Test.YtipakjenggeflaaGreatDoorPkag
import Derived.Test.YtipakjenggeflaaGreatDoorPkav
import Derived.Test.YtipakjenggeflaaGreatDoorPkak
import Derived.Test.YtipakjenggeflaaGreatDoorPkad
import Derived.Test.YtipakjenggeflaaGreatDoorShelfTn
import Derived.Test.YtipakjenggeflaaGreatDoorEnLine
import Derived.Test.YtipakjenggeflaaGreatDoorTnJob
import Derived.Test.YtipakjenggeflaaGreatDoorPkab
import Derived.Test.YtipakjenggeflaaGreatDoorShelf
import Derived.Test.YtipakjenggeflaaGreatDoorPkaj
import Derived.Test.YtipakjenggeflaaGreatDoorDecAny
import Derived.Test.YtipakjenggeflaaGreatDoorShelfAtoi
import Derived.Test.YtipakjenggeflaaGreatDoorPkah
import Derived.Test.YtipakjenggeflaaGreatDoorPkat
import Derived.Test.YtipakjenggeflaaGreatDoorPkaw
import Derived.Test.YtipakjenggeflaaGreatDoorPkai
import Derived.Test.YtipakjenggeflaaGreatDoorPkam
import Derived.Test.YtipakjenggeflaaGreatDoorLdNew
import Derived.Test.YtipakjenggeflaaGreatDoorPkau
import Derived.Test.YtipakjenggeflaaGreatDoorPkap
import Derived.Test.YtipakjenggeflaaGreatDoorPkal
import Derived.Test.YtipakjenggeflaaGreatDoorQSmall
import Derived.BigQuiet
import Derived.BigRegion
import Derived.Deep.CutRange
import Derived.Laws.OwnMore
import Derived.Deep.OwnRows
import Derived.Laws.AppendOwn
import Derived.Deep.MidRow
import Derived.Lib.Repeat
import Derived.Lib.Bytealg
import Derived.Laws.Concat
import Derived.Lib.AtoiAllCases
import Derived.Laws.CopyOwn
import Derived.ChangeKeysEq
import Derived.Lib.ConvBytes
import Derived.Deep.AppendLies
import Derived.Laws.Tables
import Derived.Laws.BitsAllLaws
import Derived.Laws.IdiomStrings
import Derived.Laws.AppendOwnNone
import Derived.Lib.SmallJoins
namespace Go.Proofs.YtipakjenggeflaaGreatDoor
open Go.RowKit
set_option linter.unusedVariables false

set_option maxRecDepth 100000 in
/-- a store opened on a disk at rest -/
theorem sopen_rest22 (g : Nat) (own : Nat → Prop) (s : DS) (q : Int) (w : World) (T : List (List Int)) (hq : ¬ q < 0) (hD : Dsk w g own s) (h : Rest s T) (hd : TDec T) :
    Calls Tryz.prog 39 #[.pointer (some ⟨g, 0, none⟩), .int .i64 q] w fun e w' => ∃ gs gl oD oL oS, e = .returned (.tuple #[.pointer (some ⟨gs, 0, none⟩), .int .i64 0]) ∧ Tri w' g gl gs oD oL oS s (lgs T) q (mkM T) ∧ Did own w w' oD ∧ (∀ k, oL k → w.heap.size ≤ k) ∧ (∀ k, oS k → w.heap.size ≤ k) := by
  obtain ⟨e1, e2⟩ := wip_rest h
  have h1 := sopen_ok g own s q w T (FrS 0 T).length hq hD h.off (h.rd hD.ok) (by rw [h.o]; exact Nat.zero_le _) e1
  refine h1.mono ?_
  rintro e w' (⟨_, h2⟩ | ⟨h2, _⟩)
  · rw [e2] at h2; exact h2
  · exact absurd hd h2
abbrev limV (l : Lm) : Value := .agg #[.int .i64 l.q, .int .i64 l.n, .int .i64 l.fu, .int .i64 l.bu]
set_option maxRecDepth 100000 in
theorem canbe22_yes {l : Lm} (h : LmOk l) (w : World) : Calls Tryz.prog 38 #[limV l] w fun e w' => e = .returned (.bool true) ∧ Below w.heap.size w w' := by
  obtain ⟨q, n, fu, bu⟩ := l
  obtain ⟨h1, h2, h3, h4⟩ := h
  have e2 : (decide (1 ≤ n) && decide (n ≤ 8)) = true := by have : 1 ≤ n ∧ n ≤ 8 := h2; simp [this.1, this.2]
  have e3 : (decide (0 ≤ fu) && decide (fu ≤ 10000)) = true := by have : 0 ≤ fu ∧ fu ≤ 10000 := h3; simp [this.1, this.2]
  have e4 : (decide (0 ≤ bu) && decide (bu ≤ 1073741824)) = true := by have : 0 ≤ bu ∧ bu ≤ 1073741824 := h4; simp [this.1, this.2]
  have e1 : (0 : Int) ≤ q := h1.1
  have hb0 : Below w.heap.size w (w.alloc (.cells #[.int .i64 q, .int .i64 n, .int .i64 fu, .int .i64 bu] 23)) := (Below.refl _ _).alloc (Nat.le_refl _) _
  have HB := Bx.mk hb0
  have HR := Bx.mk (heap_alloc_new w (.cells #[.int .i64 q, .int .i64 n, .int .i64 fu, .int .i64 bu] 23))
  clear hb0 h1 h2 h3 h4
  obtain ⟨gb, HGB⟩ : ∃ gb, Bx (w.heap.size = gb) := ⟨_, ⟨rfl⟩⟩
  rw [HGB.out] at HR
  go_enter Tryz.func38, Tryz.ntmps38
  go_upto_region 1 with fail
  rw [HGB.out]
  generalize w.alloc (.cells #[.int .i64 q, .int .i64 n, .int .i64 fu, .int .i64 bu] 23) = w0 at HB HR ⊢
  have x0 := cell_of_row _ gb 0 _ _ (0, 0) HR.out
  have x1 := cell_of_row _ gb 1 _ _ (0, 0) HR.out
  have x2 := cell_of_row _ gb 2 _ _ (0, 0) HR.out
  have x3 := cell_of_row _ gb 3 _ _ (0, 0) HR.out
  go_wp2_with fail
  refine (within22_any n 1 8 _).mono ?_
  rintro e wz ⟨rfl, hw1⟩
  have hw2 := hw1.symm
  subst hw2
  clear hw1
  rw [e2]
  go_wp2_with fail
  refine (within22_any fu 0 10000 _).mono ?_
  rintro e wz ⟨rfl, hw1⟩
  have hw2 := hw1.symm
  subst hw2
  clear hw1
  rw [e3]
  go_wp2_with fail
  refine (within22_any bu 0 1073741824 _).mono ?_
  rintro e wz ⟨rfl, hw1⟩
  have hw2 := hw1.symm
  subst hw2
  clear hw1
  rw [e4]
  go_wp2_with fail
  go_ret
  exact ⟨rfl, HB.out⟩
section
variable {A : Ad} {o : Nat → Nat → Prop} {w : World} {own : Nat → Prop} {l : Lm} {K : List Int} {s : DS} {L : LS} {M : List Pr} {E : List (List Int)} {Q : List Int} {tk : Option (Nat × List Int × List Int)} {vT : Value}
set_option maxRecDepth 100000 in
theorem takeall_nil (h : TnX A o w own l K s L [] E Q tk vT) :
    Calls Tryz.prog 42 #[.pointer (some ⟨A.gt, 0, none⟩)] w fun e w' => e = .returned (.bool true) ∧ Below w.heap.size w w' := by
  have HA := Bx.mk (all_any _ _ _ _ _ _ _ w h.tri.t Rep.nil (Nat.zero_le _))
  have c4 := h.c4
  clear h
  go_enter Tryz.func42, Tryz.ntmps42
  go_wp2_with fail
  refine HA.out.mono ?_
  rintro e w1 ⟨v, rfl, hp, hb⟩
  obtain ⟨a9, c9, rfl, _⟩ := hp.rt prE_len
  have HB := Bx.mk hb
  clear hb hp HA c4
  rw [show ([] : List Pr).length = 0 from rfl]
  go_wp2_with fail
  go_loopw [11] (fun i wr => i = .int .i64 0 ∧ Bx (Below w.heap.size w wr)) (fun _ _ => 0)
  case atStart => exact ⟨rfl, HB⟩
  case round =>
    clear HB
    obtain ⟨rfl, HB⟩ := hrel
    go_wp2_with fail
    go_ret
    exact ⟨rfl, HB.out⟩
end
set_option maxRecDepth 100000 in
theorem build_tn22 (q ln fu bu : Int) (gs gg gq : Nat) (W : World) : (Instr.build 84 #[(0, .agg #[.int .i64 q, .int .i64 ln, .int .i64 fu, .int .i64 bu]), (1, .pointer (some ⟨gs, 0, none⟩)), (2, .pointer (some ⟨gg, 0, none⟩)), (3, .pointer (some ⟨gq, 0, none⟩))]).run Tryz.prog W = .ok (.agg #[.int .i64 q, .int .i64 ln, .int .i64 fu, .int .i64 bu, .pointer (some ⟨gs, 0, none⟩), .pointer (some ⟨gg, 0, none⟩), .pointer (some ⟨gq, 0, none⟩), .pointer none]) W := by kernel_rfl
set_option maxRecDepth 100000 in
set_option maxHeartbeats 4000000 in
set_option maxRecDepth 100000 in
theorem open22_new (g : Nat) (own : Nat → Prop) (n : Nat) {l : Lm} (hl : LmOk l) (w : World) (hD : Dsk w g own (dnew n)) :
    Calls Tryz.prog 11 #[.pointer (some ⟨g, 0, none⟩), limV l, .slice none 0 0] w fun e w' => ∃ A own', e = .returned (.tuple #[.pointer (some ⟨A.gt, 0, none⟩), .int .i64 0]) ∧ A.gd = g ∧ Tn A w' own' l [] (newX n) none ∧ Did own w w' own' := by
  obtain ⟨q, ln, fu, bu⟩ := l
  have hb0 : Below w.heap.size w (w.alloc (.cells #[.int .i64 q, .int .i64 ln, .int .i64 fu, .int .i64 bu] 23)) := (Below.refl _ _).alloc (Nat.le_refl _) _
  have HB := Bx.mk hb0
  have HR := Bx.mk (heap_alloc_new w (.cells #[.int .i64 q, .int .i64 ln, .int .i64 fu, .int .i64 bu] 23))
  have HD := Bx.mk (hD.below hb0)
  have HDL : Bx (∀ j, own j → j < w.heap.size) := ⟨hD.lt⟩
  have HLO := Bx.mk hl
  have HQ : Bx (¬ q < 0) := ⟨by have h0 : 0 ≤ q := hl.q.1; omega⟩
  clear hb0 hD hl
  obtain ⟨gb, HGB⟩ : ∃ gb, Bx (w.heap.size = gb) := ⟨_, ⟨rfl⟩⟩
  rw [HGB.out] at HR
  go_enter Tryz.func11, Tryz.ntmps11
  go_upto_region 1 with fail
  rw [HGB.out]
  generalize w.alloc (.cells #[.int .i64 q, .int .i64 ln, .int .i64 fu, .int .i64 bu] 23) = w0 at HB HR HD ⊢
  have x0 := cell_of_row _ gb 0 _ _ (0, 0) HR.out
  have x1 := cell_of_row _ gb 1 _ _ (0, 0) HR.out
  have x2 := cell_of_row _ gb 2 _ _ (0, 0) HR.out
  have x3 := cell_of_row _ gb 3 _ _ (0, 0) HR.out
  go_wp2_with fail
  refine (canbe22_yes HLO.out _).mono ?_
  rintro e w1 ⟨rfl, hb1⟩
  have HR1 := Bx.mk ((hb1.block gb (Array.getElem?_eq_some_iff.1 HR.out).1).trans HR.out)
  have HD1 := Bx.mk (HD.out.below hb1)
  have HB1 := Bx.mk (bstep HB.out hb1)
  clear hb1 HR HD HB x0 x1 x2 x3
  have x0 := cell_of_row _ gb 0 _ _ (0, 0) HR1.out
  go_wp2_with fail
  refine (sopen_rest22 g own (dnew n) q _ [] (by have := HQ.out; omega) HD1.out (rest_new n) (fun b hb => by simp at hb)).mono ?_
  rintro e w2 ⟨gs, gl, oD, oL, oS, rfl, hT, hdid, hlo, hso⟩
  have hsz1 := HB1.out.size
  have HR2 : Bx (w2.heap[gb]? = some (.cells #[.int .i64 q, .int .i64 ln, .int .i64 fu, .int .i64 bu] 23 (0, 0))) := ⟨(hdid.kept.block gb (Array.getElem?_eq_some_iff.1 HR1.out).1 (fun ho => by have h1 := HDL.out gb ho; have h2 := HGB.out; omega)).trans HR1.out⟩
  have HT2 : Bx (Tri w2 g gl gs oD oL oS (dnew n) (lgs []) q []) := ⟨hT⟩
  have HDID : Bx (Did own w w2 (fun j => oD j ∨ oL j ∨ oS j)) := ⟨by
    refine ⟨(Kept.of_below HB1.out).trans hdid.kept (fun k h => .inl h), fun k hk => ?_⟩
    have hT' := hT
    rcases hk with hk | hk | hk
    · rcases hdid.new k hk with h1 | h1
      · exact .inl h1
      · exact .inr ⟨by omega, h1.2⟩
    · exact .inr ⟨by have := hlo k hk; omega, hT.l.lt k hk⟩
    · exact .inr ⟨by have := hso k hk; omega, hT.t.lt k hk⟩⟩
  clear hT hdid hlo hso hsz1 HR1 HD1 HB1 x0
  go_wp2_with fail
  refine (new19_yes 8 (by decide) (by decide) _).mono ?_
  rintro e w3 ⟨rfl, hq, hb3⟩
  obtain ⟨gq, HGQ⟩ : ∃ gq, Bx (w2.heap.size = gq) := ⟨_, ⟨rfl⟩⟩
  rw [HGQ.out] at hq
  rw [HGQ.out]
  have HQ3 := Bx.mk hq
  have HQL : Bx (gq < w3.heap.size) := ⟨hq.lt⟩
  have HT3 := Bx.mk (HT2.out.below hb3)
  have HLT3 : Bx (∀ j, oD j ∨ oL j ∨ oS j → j < gq) := ⟨fun j hj => by
    rw [← HGQ.out]
    rcases hj with hj | hj | hj
    · exact HT2.out.d.lt j hj
    · exact HT2.out.l.lt j hj
    · exact HT2.out.t.lt j hj⟩
  have HB3 : Bx (Below w2.heap.size w2 w3.drew) := ⟨below_drewN hb3 1⟩
  have hk3 : w3.heap[gb]? = some (.cells #[.int .i64 q, .int .i64 ln, .int .i64 fu, .int .i64 bu] 23 (0, 0)) := (hb3.block gb (Array.getElem?_eq_some_iff.1 HR2.out).1).trans HR2.out
  clear hq hb3 HT2 HR2
  go_upto_region 7 with fail
  have hk : w3.drew.heap[gb]? = some (.cells #[.int .i64 q, .int .i64 ln, .int .i64 fu, .int .i64 bu] 23 (0, 0)) := hk3
  have HT3 : Bx (Tri w3.drew g gl gs oD oL oS (dnew n) (lgs []) q []) := ⟨HT3.out.below (Below.refl _ _).drew⟩
  have HQ3 : Bx (Qm w3.drew gq 8 []) := ⟨HQ3.out.keep rfl⟩
  have HQL : Bx (gq < w3.drew.heap.size) := HQL
  clear hk3
  refine wp_region_held_drew (S := fun W => W.heap[gb]? = some (.cells #[.int .i64 q, .int .i64 ln, .int .i64 fu, .int .i64 bu] 23 (0, 0))) (by kernel_rfl) hk (fun _ => ?_)
  generalize w3.drew = wk at hk HT3 HQ3 HB3 HQL ⊢
  refine wpAnyH_take (i := 0) (oi := ⟨some 30, .load 23 (.tmp 4), 23, "tenant.go:33", #[], none⟩) (v := (.agg #[.int .i64 q, .int .i64 ln, .int .i64 fu, .int .i64 bu])) rfl (by kernel_rfl) (by kernel_rfl) (by kernel_rfl) (fun _ _ _ h => h) (Or.inl ⟨by rfl, ?yopn71⟩) hk ?ropn71
  case yopn71 => (intro w hSw; have y0 := cell_of_row _ gb 0 _ _ (0, 0) hSw; have y1 := cell_of_row _ gb 1 _ _ (0, 0) hSw; have y2 := cell_of_row _ gb 2 _ _ (0, 0) hSw; have y3 := cell_of_row _ gb 3 _ _ (0, 0) hSw; clear hSw; go_simp; first | done | with_reducible rfl)
  simp only [Act.put, List.setIfInBounds_toArray, List.set_cons_zero, List.set_cons_succ]
  refine wpAnyH_take (i := 1) (oi := ⟨some 31, .move (.tmp 8), 57, "tenant.go:33", #[], none⟩) (v := ?vopn72) rfl (by kernel_rfl) (by kernel_rfl) (by kernel_rfl) (fun _ _ _ h => h) (Or.inl ⟨by rfl, ?yopn72⟩) hk ?ropn72
  case yopn72 => (intro w hSw; (try dsimp only at hSw); go_simp; first | done | with_reducible rfl)
  simp only [Act.put, List.setIfInBounds_toArray, List.set_cons_zero, List.set_cons_succ]
  refine wpAnyH_take (i := 2) (oi := ⟨some 32, .move (.tmp 2), 34, "tenant.go:33", #[], none⟩) (v := ?vopn73) rfl (by kernel_rfl) (by kernel_rfl) (by kernel_rfl) (fun _ _ _ h => h) (Or.inl ⟨by rfl, ?yopn73⟩) hk ?ropn73
  case yopn73 => (intro w hSw; (try dsimp only at hSw); go_simp; first | done | with_reducible rfl)
  simp only [Act.put, List.setIfInBounds_toArray, List.set_cons_zero, List.set_cons_succ]
  refine wpAnyH_take (i := 4) (oi := ⟨some 34, .move (.tmp 10), 81, "tenant.go:33", #[], none⟩) (v := ?vopn74) rfl (by kernel_rfl) (by kernel_rfl) (by kernel_rfl) (fun _ _ _ h => h) (Or.inl ⟨by rfl, ?yopn74⟩) hk ?ropn74
  case yopn74 => (intro w hSw; (try dsimp only at hSw); go_simp; first | done | with_reducible rfl)
  simp only [Act.put, List.setIfInBounds_toArray, List.set_cons_zero, List.set_cons_succ]
  refine wpAnyH_ready (rs := [3]) (by decide +kernel) (by simp) ?_
  refine AllReadyH.cons (o := ⟨some 33, .call { callee := .value (.func 41), args := #[.tmp 32], argTypes := #[34] }, 61, "tenant.go:33", #[⟨2, .data⟩], none⟩) rfl (fun K hK => ?_) AllReadyH.nil
  go_simp
  refine (new21_any none 0 0 [] _ (bts_noneT _) (by decide)).mono ?_
  rintro e w5 ⟨gg, oG, rfl, hLg, hGge, hb5⟩
  replace hk := (hb5.block gb (Array.getElem?_eq_some_iff.1 hk).1).trans hk
  have HGG : Bx (∀ j, oG j → wk.heap.size ≤ j) := ⟨hGge⟩
  have HLG := Bx.mk hLg
  have HT5 := Bx.mk (HT3.out.below hb5)
  have HQ5 := Bx.mk (HQ3.out.keep (hb5.block gq HQL.out))
  have HB5 := Bx.mk (bstep HB3.out hb5)
  have HQ6 : Bx (gq < wk.heap.size) := HQL
  have HSZ5 : Bx (wk.heap.size ≤ w5.heap.size) := ⟨hb5.size⟩
  clear hLg hGge hb5 HT3 HQ3 HB3 HQL
  have hbt := build_tn22 q ln fu bu gs gg gq
  refine hK.out _ _ hk (fun _ => ?_)
  clear hK K
  try simp only [Act.put, List.setIfInBounds_toArray, List.set_cons_zero, List.set_cons_succ]
  refine wpAnyH_take (i := 5) (oi := ⟨some 35, .build 84 #[(0, .tmp 30), (1, .tmp 31), (2, .tmp 33), (3, .tmp 34)], 84, "tenant.go:33", #[⟨0, .data⟩, ⟨1, .data⟩, ⟨3, .data⟩, ⟨4, .data⟩], none⟩) (v := ?vopn75) rfl (by kernel_rfl) (by kernel_rfl) (by kernel_rfl) (fun _ _ _ h => h) (Or.inl ⟨by rfl, ?yopn75⟩) hk ?ropn75
  case yopn75 => (intro w hSw; (try dsimp only at hSw); go_simp; first | done | with_reducible rfl)
  simp only [Act.put, List.setIfInBounds_toArray, List.set_cons_zero, List.set_cons_succ]
  refine wpAnyH_ready (rs := [6]) (by decide +kernel) (by simp) ?_
  refine AllReadyH.cons (o := ⟨some 36, .box 84 (.tmp 35), 31, "tenant.go:33", #[⟨5, .data⟩], none⟩) rfl (fun K hK => ?_) AllReadyH.nil
  go_simp
  have hb6 : Below w5.heap.size w5 (w5.alloc (.cells #[.int .i64 q, .int .i64 ln, .int .i64 fu, .int .i64 bu, .pointer (some ⟨gs, 0, none⟩), .pointer (some ⟨gg, 0, none⟩), .pointer (some ⟨gq, 0, none⟩), .pointer none] 84)) := (Below.refl _ _).alloc (Nat.le_refl _) _
  have HROW := Bx.mk (heap_alloc_new w5 (.cells #[.int .i64 q, .int .i64 ln, .int .i64 fu, .int .i64 bu, .pointer (some ⟨gs, 0, none⟩), .pointer (some ⟨gg, 0, none⟩), .pointer (some ⟨gq, 0, none⟩), .pointer none] 84))
  have HT6 := Bx.mk (HT5.out.below hb6)
  have HLG6 := Bx.mk (HLG.out.below hb6)
  have HQ7 := Bx.mk (HQ5.out.keep (hb6.block gq (Nat.lt_of_lt_of_le HQ6.out HSZ5.out)))
  have HB6 := Bx.mk (bstep HB5.out hb6)
  have HLL : Bx (∀ j, oG j → j < w5.heap.size) := ⟨HLG.out.lt⟩
  have HSZ6 : Bx ((w5.alloc (.cells #[.int .i64 q, .int .i64 ln, .int .i64 fu, .int .i64 bu, .pointer (some ⟨gs, 0, none⟩), .pointer (some ⟨gg, 0, none⟩), .pointer (some ⟨gq, 0, none⟩), .pointer none] 84)).heap.size = w5.heap.size + 1) := ⟨by simp⟩
  replace hk := (hb6.block gb (Array.getElem?_eq_some_iff.1 hk).1).trans hk
  generalize w5.alloc (.cells #[.int .i64 q, .int .i64 ln, .int .i64 fu, .int .i64 bu, .pointer (some ⟨gs, 0, none⟩), .pointer (some ⟨gg, 0, none⟩), .pointer (some ⟨gq, 0, none⟩), .pointer none] 84) = w6 at HROW HT6 HLG6 HQ7 HB6 HSZ6 hk ⊢
  clear hb6 hbt HT5 HLG HQ5 HB5
  refine hK.out _ _ hk (fun _ => ?_)
  clear hK K
  try simp only [Act.put, List.setIfInBounds_toArray, List.set_cons_zero, List.set_cons_succ]
  refine wpAnyH_take (i := 7) (oi := ⟨some 12, .assign (.tmp 36), 31, "tenant.go:33", #[⟨6, .data⟩, ⟨3, .chain⟩, ⟨0, .phase⟩, ⟨1, .phase⟩, ⟨2, .phase⟩, ⟨3, .phase⟩, ⟨4, .phase⟩, ⟨5, .phase⟩, ⟨6, .phase⟩], none⟩) (v := ?vopn76) rfl (by kernel_rfl) (by kernel_rfl) (by kernel_rfl) (fun _ _ _ h => h) (Or.inl ⟨by rfl, ?yopn76⟩) hk ?ropn76
  case yopn76 => (intro w hSw; (try dsimp only at hSw); go_simp; first | done | with_reducible rfl)
  simp only [Act.put, List.setIfInBounds_toArray, List.set_cons_zero, List.set_cons_succ]
  refine wpAnyH_done (by decide +kernel) ?_ _
  obtain ⟨gt, HGT⟩ : ∃ gt, Bx (w5.heap.size = gt) := ⟨_, ⟨rfl⟩⟩
  rw [HGT.out] at HROW HSZ6
  rw [HGT.out]
  have HX : Bx (TnX ⟨g, gl, gs, gg, gq, gt⟩ (famN oD oL oS oG gq gt) w6 (fun j => ∃ i, famN oD oL oS oG gq gt i j) ⟨q, ln, fu, bu⟩ [] (dnew n) (lgs []) [] [] [] none (.pointer none)) := ⟨tnx_new (n1 := gq) HT6.out HLG6.out HQ7.out HROW.out HLT3.out (by have h1 := HQ6.out; have h2 := HSZ5.out; have h3 := HGT.out; omega) (fun j hj => by have h1 := HGG.out j hj; have h2 := HLL.out j hj; have h3 := HQ6.out; have h4 := HGT.out; omega) (by have h1 := HQ6.out; have h2 := HSZ5.out; have h3 := HSZ6.out; have h4 := HGT.out; omega)⟩
  clear HROW hk
  go_wp2_with fail
  refine (takeall_nil HX.out).mono ?_
  rintro e w7 ⟨rfl, hb7⟩
  have HX7 := Bx.mk (HX.out.below hb7)
  have HB7 := Bx.mk (bstep HB6.out hb7)
  clear hb7
  go_wp2_with fail
  go_ret2
  refine ⟨⟨g, gl, gs, gg, gq, gt⟩, _, rfl, rfl, ⟨_, _, _, HX7.out, TI.nil, HLO.out, .inl ⟨rfl, rfl⟩⟩, ?_⟩
  have hs2 := HDID.out.kept.size
  have hgq := HGQ.out
  refine ⟨HDID.out.kept.below HB7.out, fun k hk => ?_⟩
  have hlt := HX7.out.lt k hk
  obtain ⟨i, hi⟩ := hk
  unfold famN at hi
  have hbig : gq ≤ k → own k ∨ (w.heap.size ≤ k ∧ k < w7.heap.size) := fun h => .inr ⟨by omega, hlt⟩
  have hsm : (oD k ∨ oL k ∨ oS k) → own k ∨ (w.heap.size ≤ k ∧ k < w7.heap.size) := fun h => by
    rcases HDID.out.new k h with h1 | h1
    · exact .inl h1
    · exact .inr ⟨h1.1, hlt⟩
  rcases hi with ⟨_, a⟩ | ⟨_, a⟩ | ⟨_, a⟩ | ⟨_, a⟩ | ⟨_, a⟩ | ⟨_, a⟩
  · exact hsm (.inl a)
  · exact hsm (.inr (.inl a))
  · exact hsm (.inr (.inr a))
  · exact hbig (by have h1 := HGG.out k a; have h2 := HQ6.out; omega)
  · exact hbig (by omega)
  · exact hbig (by have h1 := HQ6.out; have h2 := HSZ5.out; have h3 := HGT.out; omega)
end Go.Proofs.YtipakjenggeflaaGreatDoor
namespace Go.Proofs.YtipakjenggeflaaGreatDoor
open Go.RowKit
set_option linter.unusedVariables false

def lvL : Lm := ⟨99, 1, 0, 0⟩
set_option maxRecDepth 100000 in
theorem lvL_ok : LmOk lvL := ⟨by decide, by decide, by decide, by decide⟩
set_option maxRecDepth 100000 in
theorem build_lv (W : World) : (Instr.build 23 #[(0, .int .i64 99), (1, .int .i64 1)]).run Tryz.prog W = .ok (.agg #[.int .i64 99, .int .i64 1, .int .i64 0, .int .i64 0]) W := by kernel_rfl
set_option maxRecDepth 100000 in
theorem told_field (c : Int) (a : Option Addr) (n cap : Nat) (W : World) : (Instr.field 44 (tdV c a n cap) 0).run Tryz.prog W = .ok (.int .i64 c) W := by kernel_rfl
set_option maxRecDepth 100000 in
theorem build_la (W : World) : (Instr.build 36 #[(0, .int .i64 1), (1, .string ⟨#[97]⟩)]).run Tryz.prog W = .ok (.agg #[.int .i64 1, .string ⟨#[97]⟩, .string ⟨#[]⟩, .slice none 0 0, .int .i64 0, .int .i64 0]) W := by kernel_rfl
/-- what an upload is told -/
def putC (l : Lm) (s : DS) (L : LS) (M : List Pr) (nm : ByteArray) (b : List Int) : Int := if (putQ M nm b).c = 0 then cmC (coE s L l.q M (putQ M nm b).C) else (putQ M nm b).c
set_option maxRecDepth 100000 in
theorem kept_told {own : Nat → Prop} {w w1 w2 : World} {gr : Nat} (hb : Below w.heap.size w w1) (hk : Kept own w1 w2) (hg : w.heap.size ≤ gr) (c : Int) (a : Option Addr) (n cap : Nat) : Kept own w ((w2.setCell ⟨gr, 0, none⟩ (.int .i64 c)).setCell ⟨gr, 1, none⟩ (.slice a n cap)) :=
  ((((Kept.of_below hb).trans' hk).setCell (.inr hg) 0 _).setCell (.inr hg) 1 _)
section
variable {A : Ad} {o : Nat → Nat → Prop} {w : World} {own : Nat → Prop} {l : Lm} {K : List Int} {s : DS} {L : LS} {M : List Pr} {E : List (List Int)} {Q : List Int} {tk : Option (Nat × List Int × List Int)} {vT : Value}
set_option maxRecDepth 100000 in
set_option maxHeartbeats 4000000 in
set_option maxRecDepth 100000 in
theorem do22_put (h : TnX A o w own l K s L M E Q tk vT) {N : Nat} (ht : Tbs N w) (hNo : ∀ j, own j → N ≤ j) (hby : ∀ k, Byt (valM M k)) (hv4 : ∀ k, (valM M k).length ≤ 4096) (hO : s.O.length ≤ 900000) (hu : byM M ≤ 1000000000000)
    (nm sp : ByteArray) (x y now : Int) (ab : Option Addr) (n c : Nat) (b : List Int) (hb : Bts w ab n c b) (hn : n ≤ 1000000) (hnm : nm.size ≤ 1000000) :
    Calls Tryz.prog 15 #[.pointer (some ⟨A.gt, 0, none⟩), .agg #[.int .i64 1, .string nm, .string sp, .slice ab n c, .int .i64 x, .int .i64 y], .int .i64 now] w fun e w' => ∃ a0 n0 c0, e = .returned (tdV (putC l s L M nm b) a0 n0 c0) ∧ Kept own w w' := by
  obtain ⟨hR0, hV1, hV2⟩ := two_new18 w (.cells #[.int .i64 1, .string nm, .string sp, .slice ab n c, .int .i64 x, .int .i64 y] 36) (.cells #[.int .i64 0, .slice none 0 0] 44)
  have hV : RvI (w.heap.size + 1) w ((w.alloc (.cells #[.int .i64 1, .string nm, .string sp, .slice ab n c, .int .i64 x, .int .i64 y] 36)).alloc (.cells #[.int .i64 0, .slice none 0 0] 44)) := ⟨Nat.le_succ _, hV1, hV2⟩
  have HV := Bx.mk hV
  have HR := Bx.mk hR0
  have HL : Bx (∀ j, own j → j < w.heap.size) := ⟨h.lt⟩
  have HT := Bx.mk (h.below hV.low)
  have HTB := Bx.mk (ht.below hV.low)
  have HB := Bx.mk (hb.below hV.low)
  have HBY := Bx.mk hby
  have HV4 := Bx.mk hv4
  have HOU := Bx.mk (And.intro hO hu)
  have HSZ : Bx (n ≤ 1000000 ∧ nm.size ≤ 1000000) := ⟨hn, hnm⟩
  have HM := Bx.mk (made22_yes HT.out)
  obtain ⟨PC, HPC⟩ : ∃ x, Bx (putC l s L M nm b = x) := ⟨_, ⟨rfl⟩⟩
  rw [HPC.out]
  obtain ⟨ga, HGA⟩ : ∃ ga, Bx (w.heap.size = ga) := ⟨_, ⟨rfl⟩⟩
  obtain ⟨gr, HGR⟩ : ∃ gr, Bx (ga + 1 = gr) := ⟨_, ⟨rfl⟩⟩
  rw [HGA.out] at HR HV
  rw [HGR.out] at HV
  clear hR0 hV hV1 hV2 ht hb hO hu hn hnm h hby hv4
  go_enter Tryz.func15, Tryz.ntmps15
  go_upto_region 1 with fail
  rw [HGA.out, HGR.out]
  generalize (w.alloc (.cells #[.int .i64 1, .string nm, .string sp, .slice ab n c, .int .i64 x, .int .i64 y] 36)).alloc (.cells #[.int .i64 0, .slice none 0 0] 44) = w1 at HV HR HT HTB HB HM ⊢
  go_wp2_with fail
  refine HM.out.mono ?_
  rintro e wz ⟨rfl, hwz⟩
  have hwz2 := hwz.symm
  subst hwz2
  clear hwz HM
  have y0 := cell_of_row _ ga 0 _ _ (0, 0) HR.out
  have y1 := cell_of_row _ ga 1 _ _ (0, 0) HR.out
  have y3 := cell_of_row _ ga 3 _ _ (0, 0) HR.out
  go_wp2_with fail
  refine (put22_any HT.out HTB.out hNo HBY.out HV4.out HOU.out.1 HOU.out.2 nm HSZ.out.2 ab n c b HB.out HSZ.out.1).mono ?_
  rintro e w2 h2
  have h3 : ∃ a0 n0 c0, e = .returned (tdV PC a0 n0 c0) ∧ Kept own w1 w2 := by
    rcases h2 with ⟨h1, a0, n0, c0, rfl, _, hb2⟩ | ⟨h1, ⟨a0, n0, c0, rfl, _⟩, _, hd⟩
    · exact ⟨a0, n0, c0, by rw [← HPC.out]; unfold putC; rw [if_neg h1], Kept.of_below hb2⟩
    · exact ⟨a0, n0, c0, by rw [← HPC.out]; unfold putC; rw [if_pos h1], hd.kept⟩
  obtain ⟨a8, m8, n8, rfl, hk2⟩ := h3
  have HR2 : Bx (w2.heap[gr]? = some (.cells #[.int .i64 0, .slice none 0 0] 44 (0, 0))) := ⟨(hk2.block gr HV.out.lt (fun ho => by have h1 := HL.out gr ho; have h2 := HV.out.ge; omega)).trans HV.out.row⟩
  have HF : Bx (Kept own w ((w2.setCell ⟨gr, 0, none⟩ (.int .i64 PC)).setCell ⟨gr, 1, none⟩ (.slice a8 m8 n8))) := ⟨kept_told HV.out.low hk2 HV.out.ge _ _ _ _⟩
  clear h2 hk2 y0 y1 y3
  have x0 := cell_of_row _ gr 0 _ _ (0, 0) HR2.out
  have x1 := cell_of_row _ gr 1 _ _ (0, 0) HR2.out
  have f0 := frozen_of_row _ gr 0 _ _ HR2.out
  have f1 := frozen_of_row _ gr 1 _ _ HR2.out
  go_wp2_with fail
  exact bodyPost_ret (v := tdV PC a8 m8 n8) (by simp [results, Tryz.results15, go_sem, x0, x1]) rfl ⟨a8, m8, n8, rfl, HF.out⟩
end
set_option maxRecDepth 100000 in
theorem lv_put : putC lvL (dnew 9) (lgs []) [] ⟨#[97]⟩ [] = 200 := by
  have h1 : nameB (⟨#[97]⟩ : ByteArray) = true := by decide
  have hq : putQ [] ⟨#[97]⟩ [] = ⟨0, [⟨kP cU ⟨#[97]⟩, false, []⟩], 0⟩ := by
    unfold putQ
    rw [h1]
    rfl
  have hc : chkL [⟨kP cU ⟨#[97]⟩, false, []⟩] = 0 := by decide
  have hlen : (encL [⟨kP cU ⟨#[97]⟩, false, []⟩]).length = 7 := by decide
  have hN : coN lvL.q [] [⟨kP cU ⟨#[97]⟩, false, []⟩] = true := by decide
  have hE : apE (dnew 9) (lgs []) (encL [⟨kP cU ⟨#[97]⟩, false, []⟩]) = 0 := by
    obtain ⟨_, _, h3⟩ := ap_cases (rest_new 9) (encL_byt (chkL_ok hc) (fun c hc => by simp at hc; rw [hc]; exact Byt.nil))
    rcases h3 with ⟨g1, _⟩ | ⟨_, g2, _⟩ | ⟨_, _, _, g4⟩
    · exact g1
    · cases g2
    · rw [hlen] at g4
      have e : (FrS 0 []).length = 0 := rfl
      have e2 : (dnew 9).F.length = 9 := by simp [dnew]
      rw [e, e2] at g4
      exact absurd g4 (by decide)
  unfold putC
  rw [hq, if_pos rfl]
  exact (cmC_200 _).2 (by rw [coE_a hc hN, hE])
set_option maxRecDepth 100000 in
theorem Tbs.upL {N : Nat} {w : World} (h : Tbs N w) : Tbs w.heap.size w := ⟨fun w' hb => h.t w' (hb.mono h.le), Nat.le_refl _⟩
set_option maxRecDepth 100000 in
set_option maxHeartbeats 2000000 in
theorem lives22_any (w : World) (ht : Tbs w.heap.size w) :
    Calls Tryz.prog 22 #[] w fun e w' => e = .returned (.bool true) ∧ Below w.heap.size w w' := by
  have HT := Bx.mk ht
  clear ht
  have hbl := build_lv
  have hba := build_la
  go_enter Tryz.func22, Tryz.ntmps22
  go_wp2_with fail
  refine (new_anyD 9 _ (by decide) (by decide)).mono ?_
  rintro e w1 ⟨g, rfl, hD, hb1⟩
  have HD := Bx.mk hD
  have HB1 := Bx.mk hb1
  clear hD hb1
  go_wp2_with fail
  refine (open22_new g _ 9 lvL_ok _ HD.out).mono ?_
  rintro e w2 ⟨A, own', rfl, _, ⟨o, tk, vT, hX, _⟩, hdid⟩
  have HX := Bx.mk hX
  have HOW : Bx (∀ j, own' j → w.heap.size ≤ j) := ⟨fun j hj => by
    have hs := HB1.out.size
    rcases hdid.new j hj with h1 | h1
    · exact h1.1
    · omega⟩
  have HB2 : Bx (Below w.heap.size w w2) := ⟨HB1.out.trans (hdid.kept.low (fun j hj => hj.1) HB1.out.size)⟩
  clear hX hdid HD HB1 hbl
  go_wp2_with fail
  refine (do22_put HX.out (HT.out.low HB2.out) HOW.out (fun k => Byt.nil) (fun k => Nat.zero_le _) (Nat.zero_le _) (by decide) ⟨#[97]⟩ ⟨#[]⟩ 0 0 0 none 0 0 [] (bts_noneT _) (by decide) (by decide)).mono ?_
  rintro e w3 ⟨a0, n0, c0, he, hk3⟩
  obtain rfl : e = .returned (tdV 200 a0 n0 c0) := by rw [he]; rw [show putC lvL (newX 9).s (newX 9).L (newX 9).T.M ⟨#[97]⟩ [] = 200 from lv_put]
  have HF : Bx (Below w.heap.size w w3) := ⟨HB2.out.trans (hk3.low HOW.out HB2.out.size)⟩
  clear hk3 he HX hba
  have hfd := told_field 200 a0 n0 c0
  go_wp2_with fail
  go_ret
  exact ⟨rfl, HF.out⟩
/-- of no disk there is no tenant -/
def nlL : Lm := ⟨0, 1, 0, 0⟩
set_option maxRecDepth 100000 in
theorem nlL_ok : LmOk nlL := ⟨by decide, by decide, by decide, by decide⟩
set_option maxRecDepth 100000 in
theorem build_nl (W : World) : (Instr.build 23 #[(1, .int .i64 1)]).run Tryz.prog W = .ok (.agg #[.int .i64 0, .int .i64 1, .int .i64 0, .int .i64 0]) W := by kernel_rfl
set_option maxRecDepth 100000 in
set_option maxHeartbeats 2000000 in
theorem open22_nil (w : World) :
    Calls Tryz.prog 11 #[.pointer none, .agg #[.int .i64 0, .int .i64 1, .int .i64 0, .int .i64 0], .slice none 0 0] w fun e w' => e = .returned (.tuple #[.pointer none, .int .i64 1]) ∧ Below w.heap.size w w' := by
  have hb0 : Below w.heap.size w (w.alloc (.cells #[.int .i64 0, .int .i64 1, .int .i64 0, .int .i64 0] 23)) := (Below.refl _ _).alloc (Nat.le_refl _) _
  have HB := Bx.mk hb0
  have HR := Bx.mk (heap_alloc_new w (.cells #[.int .i64 0, .int .i64 1, .int .i64 0, .int .i64 0] 23))
  clear hb0
  obtain ⟨gb, HGB⟩ : ∃ gb, Bx (w.heap.size = gb) := ⟨_, ⟨rfl⟩⟩
  rw [HGB.out] at HR
  go_enter Tryz.func11, Tryz.ntmps11
  go_upto_region 1 with fail
  rw [HGB.out]
  generalize w.alloc (.cells #[.int .i64 0, .int .i64 1, .int .i64 0, .int .i64 0] 23) = w0 at HB HR ⊢
  have x0 := cell_of_row _ gb 0 _ _ (0, 0) HR.out
  have x1 := cell_of_row _ gb 1 _ _ (0, 0) HR.out
  have x2 := cell_of_row _ gb 2 _ _ (0, 0) HR.out
  have x3 := cell_of_row _ gb 3 _ _ (0, 0) HR.out
  go_wp2_with fail
  refine (canbe22_yes nlL_ok _).mono ?_
  rintro e w1 ⟨rfl, hb1⟩
  have HR1 := Bx.mk ((hb1.block gb (Array.getElem?_eq_some_iff.1 HR.out).1).trans HR.out)
  have HB1 := Bx.mk (bstep HB.out hb1)
  clear hb1 HR HB x0 x1 x2 x3
  have x0 := cell_of_row _ gb 0 _ _ (0, 0) HR1.out
  go_wp2_with fail
  refine (sopen_no none 0 _ (by decide) (.inl rfl)).mono ?_
  rintro e wz ⟨rfl, hwz⟩
  subst hwz
  go_wp2_with fail
  go_ret2
  exact ⟨rfl, HB1.out⟩
end Go.Proofs.YtipakjenggeflaaGreatDoor
