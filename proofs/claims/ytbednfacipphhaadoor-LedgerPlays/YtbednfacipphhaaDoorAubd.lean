/- The program's ledger: leaves, heads. The program's ledger: Head, Text, Path, Growth. The document's own ledger: Add, Path, Growth. The program's ledger: Texts. One entry more: the document's own. The head of texts: the document's own. The program's ledger: Head. A ledger that no call made. -/
import Derived.Test.YtbednfacipphhaaDoorAuap
import Derived.Test.YtbednfacipphhaaDoorAuai
import Derived.Test.YtbednfacipphhaaDoorAuah
import Derived.Test.YtbednfacipphhaaDoorAuan
import Derived.Test.YtbednfacipphhaaDoorRoot
import Derived.Test.YtbednfacipphhaaDoorAuad
import Derived.Laws.Tables
import Derived.Test.YtbednfacipphhaaDoorLdNew
import Derived.Test.YtbednfacipphhaaDoorAuao
import Derived.Test.YtbednfacipphhaaDoorRLink
import Derived.Test.YtbednfacipphhaaDoorAuax
import Derived.Test.YtbednfacipphhaaDoorAubb
import Derived.Test.YtbednfacipphhaaDoorAubc
import Derived.Test.YtbednfacipphhaaDoorAuau
import Derived.Deep.CutRange
import Derived.Test.YtbednfacipphhaaDoorRefRoot
import Derived.Test.YtbednfacipphhaaDoorAuaj
import Derived.Test.YtbednfacipphhaaDoorEnMem
namespace Go.Proofs.YtbednfacipphhaaDoor
open Go.RowKit
set_option linter.unusedVariables false

set_option maxRecDepth 100000 in
theorem head_build (n : Int) (R C : List Int) (hR : Dg R) (hC : Dg C) (w : World) : (Instr.build 47 #[(0, .int .i64 n), (1, .agg (bv R).toArray), (2, .agg (bv C).toArray)]).run Tryd.prog w = .ok (.agg (hdA ⟨n, R, C, dz⟩)) w := by
  refine run_build w _ _ _ ?_
  have h1 := hd0_zero
  obtain ⟨fs, hfs, hm⟩ : ∃ fs, Tryd.prog.underlying 47 = some (.struct fs) ∧ fs.toList.mapM (fun f => (Tryd.prog.info? f.type).map fun i => (f.offset, i.size)) = some [(0, 1), (1, 32), (33, 32), (65, 32)] := ⟨_, Tryd.underlying47, by kernel_rfl⟩
  obtain ⟨it, hit, hz0⟩ := Option.map_eq_some_iff.1 h1
  unfold Program.built
  simp only [hit, hfs, hz0, hm]
  have hz : (Value.agg (hdA hd0)).cells = hdA hd0 := rfl
  have hs : (hdA hd0).size = 97 := hdA_size hd0_dg
  have hv : ∀ j, (hdA hd0)[j]? = if j = 0 then some (.int .i64 0) else if j < 33 then (bv dz)[j - 1]? else if j < 65 then (bv dz)[j - 33]? else (bv dz)[j - 65]? := fun j => by
    unfold hdA; rw [List.getElem?_toArray]; exact hdC_at hd0_dg j
  rw [hz]
  generalize hdA hd0 = cs at hs hv
  have hcn : (Value.int .i64 n).cells = #[.int .i64 n] := rfl
  have hcR : (Value.agg (bv R).toArray).cells = (bv R).toArray := rfl
  have hcC : (Value.agg (bv C).toArray).cells = (bv C).toArray := rfl
  have hsR : (bv R).toArray.size = 32 := by rw [List.size_toArray, bv_length, hR.1]
  have hsC : (bv C).toArray.size = 32 := by rw [List.size_toArray, bv_length, hC.1]
  have hp0 : ([(0, 1), (1, 32), (33, 32), (65, 32)] : List (Nat × Nat)).toArray[0]? = some (0, 1) := rfl
  have hp1 : ([(0, 1), (1, 32), (33, 32), (65, 32)] : List (Nat × Nat)).toArray[1]? = some (1, 32) := rfl
  have hp2 : ([(0, 1), (1, 32), (33, 32), (65, 32)] : List (Nat × Nat)).toArray[2]? = some (33, 32) := rfl
  have hs0 : (cs.setIfInBounds 0 (.int .i64 n)).size = 97 := by simp [hs]
  obtain ⟨a1, a2⟩ := fill_part 1 R (cs.setIfInBounds 0 (.int .i64 n)) (by rw [hR.1]; omega)
  obtain ⟨b1, b2⟩ := fill_part 33 C ((bv R).toArray.zipIdx.foldl (fun (cs : Array Value) (p : Value × Nat) => cs.setIfInBounds (1 + p.2) p.1) (cs.setIfInBounds 0 (.int .i64 n))) (by rw [hC.1]; omega)
  have hone : (#[Value.int .i64 n].zipIdx.foldl (fun (cs : Array Value) (p : Value × Nat) => cs.setIfInBounds (0 + p.2) p.1) cs) = cs.setIfInBounds 0 (.int .i64 n) := by simp
  generalize ([(0, 1), (1, 32), (33, 32), (65, 32)] : List (Nat × Nat)).toArray = PL at hp0 hp1 hp2 ⊢
  simp only [Instr.fill, hp0, hp1, hp2, hcn, hcR, hcC, hone]
  rw [if_neg (by simp [hs]), if_neg (by rw [hsR, hs0]; decide), if_neg (by rw [hsC, a1, hs0]; decide)]
  congr 1
  apply Array.ext_getElem?
  intro j
  have hd : HdD ⟨n, R, C, dz⟩ := ⟨hR, hC, dz_dg⟩
  have hE : (hdA ⟨n, R, C, dz⟩)[j]? = if j = 0 then some (.int .i64 n) else if j < 33 then (bv R)[j - 1]? else if j < 65 then (bv C)[j - 33]? else (bv dz)[j - 65]? := by
    unfold hdA; rw [List.getElem?_toArray]; exact hdC_at hd j
  rw [b2 j, a2 j, hE, hR.1, hC.1]
  by_cases j0 : j = 0
  · subst j0
    rw [if_neg (by omega), if_neg (by omega), if_pos rfl, Array.getElem?_setIfInBounds, if_pos rfl, if_pos (by omega)]
  by_cases j1 : j < 33
  · rw [if_neg (by omega), if_pos (by omega), if_neg j0, if_pos j1]
  by_cases j2 : j < 65
  · rw [if_pos (by omega), if_neg j0, if_neg j1, if_pos j2]
  · rw [if_neg (by omega), if_neg (by omega), if_neg j0, if_neg j1, if_neg j2, Array.getElem?_setIfInBounds, if_neg (by omega), hv j, if_neg j0, if_neg j1, if_neg j2]
set_option maxRecDepth 100000 in
theorem wpList_build_hd {ops : Array Oper} {rest : List Oper} {o : Oper} {a : Act} {w : World} {Q : Exit → Act → World → Prop} (hgd : o.guard = none) (x y z : Operand) (ho : o.op = .build 47 #[(0, x), (1, y), (2, z)]) (vx vy vz : Value) (Z : Array Value) (hx : a.eval x = vx) (hy : a.eval y = vy) (hz : a.eval z = vz)
    (hb : (Instr.build 47 #[(0, vx), (1, vy), (2, vz)]).run Tryd.prog w = .ok (.agg Z) w) (h : wpList Tryd.prog ops Q rest (a.put o.dst (.agg Z)) w) : wpList Tryd.prog ops Q (o :: rest) a w :=
  wpList_plain hgd fun K hK => by
    unfold Oper.wp execOp
    simp [ho, hx, hy, hz, hb]
    exact hK _ _ h
/-- the head of leaves, not signed -/
def hdD (L : List (List Int)) : Hd := ⟨(L.length : Int), rootL L 256, chnD L, dz⟩
set_option maxRecDepth 100000 in
theorem hdD_dg (L : List (List Int)) (h : Dgl L) : HdD (hdD L) := ⟨rootL_dg _ _ h, chnD_dg _, dz_dg⟩
set_option maxHeartbeats 4000000 in
set_option maxRecDepth 100000 in
theorem headof_any (a : Option Addr) (len cap : Nat) (L : List (List Int)) (w : World) (hL : Dgs w a len cap L) (htab : Tab w) (hl : len ≤ 1000) :
    Calls Tryd.prog 55 #[.slice a len cap] w fun e w' => e = .returned (.agg (hdA (hdD L))) ∧ Below w.heap.size w w' := by
  have hb1 : Below w.heap.size w (w.alloc (.cells (hdA hd0) 47)) := (Below.refl _ _).alloc (Nat.le_refl _) _
  have HV : Bx (NV 47 97 w.heap.size w.heap.size (w.alloc (.cells (hdA hd0) 47))) := ⟨NV.new (Nat.le_refl _) (hdA_size hd0_dg)⟩
  have HL := Bx.mk (hL.below hb1)
  have HT := Bx.mk (htab.below hb1)
  have HB := Bx.mk hb1
  have HLL : Bx (L.length = len) := ⟨hL.len_eq⟩
  have HD : Bx (HdD (hdD L)) := ⟨hdD_dg L hL.dig⟩
  have hzv := hd0_run
  have hbd := head_build (len : Int) (rootL L 256) (chnD L) HD.out.R HD.out.C
  have HE : Bx ((⟨(len : Int), rootL L 256, chnD L, dz⟩ : Hd) = hdD L) := ⟨by rw [← HLL.out]; rfl⟩
  rw [HE.out] at hbd
  obtain ⟨gr, HG⟩ : ∃ gr, Bx (gr = w.heap.size) := ⟨_, ⟨rfl⟩⟩
  rw [← HG.out] at HV
  clear hb1 hL htab HE
  go_enter Tryd.func55, Tryd.ntmps55
  go_upto_region 1 with fail
  rw [← HG.out]
  generalize w.alloc (.cells (hdA hd0) 47) = w0 at HV HL HT HB ⊢
  clear hzv
  go_wp2_with fail
  refine (root_any len a len cap L 256 _ (Nat.le_refl _) HL.out HT.out (by omega)).mono ?_
  rintro e w1 ⟨rfl, hb1⟩
  have HV1 := Bx.mk (HV.out.step hb1)
  have HL1 := Bx.mk (HL.out.below hb1)
  have HT1 := Bx.mk (HT.out.below hb1)
  have HB1 := Bx.mk (bstep HB.out hb1)
  clear hb1 HV HL HT HB
  go_wp2_with fail
  refine (chain21_any a len cap L _ HL1.out HT1.out hl).mono ?_
  rintro e w2 ⟨rfl, hb2⟩
  have HV2 := Bx.mk (HV1.out.step hb2)
  have HB2 := Bx.mk (bstep HB1.out hb2)
  clear hb2 HV1 HL1 HT1 HB1
  have HBD2 := Bx.mk (hbd w2)
  generalize (bv (rootL L 256)).toArray = DR at HBD2 ⊢
  generalize (bv (chnD L)).toArray = DC at HBD2 ⊢
  have HTR : Bx (w2.there gr 0 (hdA (hdD L)).size) := ⟨HV2.out.hd_there HD.out⟩
  have HIR := Bx.mk (hdA_info HD.out)
  have HOR : Bx ((hdA (hdD L)).all (·.oneCell') = true) := ⟨hdA_one⟩
  have HST : Bx (HdB (w2.setCells gr 0 (hdA (hdD L)).toList) gr (hdD L)) := ⟨HV2.out.hd HD.out⟩
  have HBS : Bx (Below w.heap.size w (w2.setCells gr 0 (hdA (hdD L)).toList)) := ⟨below_setCells HB2.out gr (by rw [HG.out]; exact Nat.le_refl _) _ _⟩
  clear hbd HV2
  go_wp2_with (first
    | (refine wpList_build_hd rfl (.tmp 4) (.tmp 6) (.tmp 8) rfl (.int .i64 (len : Int)) (.agg DR) (.agg DC) (hdA (hdD L)) rfl rfl rfl HBD2.out ?_)
    | (refine wpList_store_mid rfl 47 (.tmp 2) (.tmp 9) rfl gr 0 (hdA (hdD L)) rfl rfl ?hu HIR.out HOR.out ?_; (case hu => exact HTR.out)))
  exact bodyPost_ret (v := .agg (hdA (hdD L))) (results_cell_row rfl _ _ gr 47 (hdA (hdD L)) (0, 0) _ rfl HST.out.row Tryd.underlying47 rfl HIR.out) rfl ⟨rfl, HBS.out⟩
end Go.Proofs.YtbednfacipphhaaDoor
namespace Go.Proofs.YtbednfacipphhaaDoor
open Go.RowKit
set_option linter.unusedVariables false

/-- how Text ends -/
def TtP (T : List (List Int)) (i : Int) (w : World) (e : Ending) (w' : World) : Prop := ∃ a n c, e = .returned (.tuple #[.slice a n c, .int .i64 (textT T i).2]) ∧ w'.ownsRow w.heap.size 5 1 (.slice a n c) n (bv (textT T i).1) ∧ n ≤ 160 ∧ Below w.heap.size w w'
set_option maxRecDepth 100000 in
theorem ttp_no {T : List (List Int)} {i : Int} {w w' : World} (h : i < 0 ∨ (T.length : Int) ≤ i) (hb : Below w.heap.size w w') : TtP T i w (.returned (.tuple #[.slice none 0 0, .int .i64 9])) w' := by
  have e : textT T i = ([], 9) := by unfold textT; rw [if_pos h]
  exact ⟨none, 0, 0, by rw [e], by rw [e]; exact World.ownsRow_nil _ _ _ _, Nat.zero_le _, hb⟩
set_option maxHeartbeats 4000000 in
set_option maxRecDepth 100000 in
theorem text21_any (own : Nat → Prop) (g : Nat) (K : List Int) (T : List (List Int)) (i : Int) (w : World) (h : Lg w own g K T) :
    Calls Tryd.prog 29 #[.pointer (some ⟨g, 0, none⟩), .int .i64 i] w (TtP T i w) := by
  have HG := Bx.mk h
  have c66 := h.c66
  have hle := h.le
  by_cases hn0 : i < 0
  · have hq : decide (i < 0) = true := decide_eq_true hn0
    have HF : Bx (∀ W, Below w.heap.size w W → TtP T i w (.returned (.tuple #[.slice none 0 0, .int .i64 9])) W) := ⟨fun W hb => ttp_no (.inl hn0) hb⟩
    clear hn0 h hle
    go_enter Tryd.func29, Tryd.ntmps29
    go_wp2_with fail
    refine (made21_yes HG.out).mono ?_
    rintro e wz ⟨rfl, hwz⟩
    subst hwz
    go_wp2_with fail
    go_ret2
    exact HF.out _ (Below.refl _ _)
  obtain ⟨k, rfl⟩ : ∃ k : Nat, i = (k : Int) := ⟨i.toNat, by omega⟩
  have hq : decide ((k : Int) < 0) = false := decide_eq_false hn0
  by_cases hnT : T.length ≤ k
  · have hq2 : decide (T.length ≤ k) = true := decide_eq_true hnT
    have HF : Bx (∀ W, Below w.heap.size w W → TtP T (k : Int) w (.returned (.tuple #[.slice none 0 0, .int .i64 9])) W) := ⟨fun W hb => ttp_no (.inr (by omega)) hb⟩
    clear hn0 hnT h hle
    go_enter Tryd.func29, Tryd.ntmps29
    go_wp2_with fail
    refine (made21_yes HG.out).mono ?_
    rintro e wz ⟨rfl, hwz⟩
    subst hwz
    go_wp2_with fail
    go_ret2
    exact HF.out _ (Below.refl _ _)
  have hq2 : decide (T.length ≤ k) = false := decide_eq_false hnT
  have hk64 : (k : Int) < 64 := by omega
  obtain ⟨a, n, c, hcell, hbt, hn⟩ := h.ct k (by omega)
  have HE : Bx (textT T (k : Int) = (T.getD k [], 0)) := ⟨by unfold textT; rw [if_neg (by omega), Int.toNat_natCast]⟩
  generalize T.getD k [] = t at hbt HE
  have HBT := Bx.mk hbt
  have HN : Bx (n ≤ 160) := ⟨hn⟩
  clear hn0 hnT h hle hbt hn
  go_enter Tryd.func29, Tryd.ntmps29
  go_wp2_with fail
  refine (made21_yes HG.out).mono ?_
  rintro e wz ⟨rfl, hwz⟩
  subst hwz
  go_wp2_with fail
  refine (bclone_any a n c t _ HBT.out (by have := HN.out; omega)).mono ?_
  rintro e w1 ⟨v, rfl, ho, hb⟩
  obtain ⟨a1, c1, rfl, _⟩ := Bts.of_owns ho HBT.out.byt
  have HO := Bx.mk ho
  have HB := Bx.mk hb
  clear ho hb
  go_wp2_with fail
  go_ret2
  exact ⟨a1, n, c1, by rw [HE.out]; rfl, by rw [HE.out]; exact HO.out, HN.out, HB.out⟩
/-- how Path and Growth end -/
def DgP (r : List (List Int) × Int) (w : World) (e : Ending) (w' : World) : Prop := ∃ v, e = .returned (.tuple #[v, .int .i64 r.2]) ∧ w'.ownsRow w.heap.size 30 32 v r.1.length (bv r.1.flatten) ∧ Below w.heap.size w w'
set_option maxRecDepth 100000 in
theorem dgp_no {r : List (List Int) × Int} {w w' : World} (h : r = ([], 9)) (hb : Below w.heap.size w w') : DgP r w (.returned (.tuple #[.slice none 0 0, .int .i64 9])) w' := by
  subst h
  exact ⟨_, rfl, World.ownsRow_nil _ _ _ _, hb⟩
set_option maxHeartbeats 4000000 in
set_option maxRecDepth 100000 in
theorem path21_any (own : Nat → Prop) (g : Nat) (K : List Int) (T : List (List Int)) (i n : Int) (w : World) (h : Lg w own g K T) (htab : Tab w) :
    Calls Tryd.prog 30 #[.pointer (some ⟨g, 0, none⟩), .int .i64 i, .int .i64 n] w (DgP (pathT T i n) w) := by
  have HG := Bx.mk h
  have HT := Bx.mk htab
  have hle := h.le
  clear h htab
  go_enter Tryd.func30, Tryd.ntmps30
  go_wp2_with fail
  refine (leaves21_any own g K T n _ HG.out HT.out).mono ?_
  rintro e w1 (⟨hn, rfl, hb1⟩ | ⟨hn, ⟨a, c, rfl, hD⟩, hb1⟩)
  · have HF : Bx (pathT T i n = ([], 9)) := ⟨by unfold pathT; rw [if_pos (by omega)]⟩
    have HB := Bx.mk hb1
    clear hb1 hn
    go_wp2_with fail
    go_ret2
    exact dgp_no HF.out HB.out
  · have HB := Bx.mk hb1
    have HD := Bx.mk hD
    have HT1 := Bx.mk (HT.out.below hb1)
    by_cases hlo : i < 0
    · have HF : Bx (pathT T i n = ([], 9)) := ⟨by unfold pathT; rw [if_pos (by omega)]⟩
      have hq : decide (i < 0) = true := decide_eq_true hlo
      clear hb1 hn hlo hD
      go_wp2_with fail
      go_ret2
      exact dgp_no HF.out HB.out
    have hq : decide (i < 0) = false := decide_eq_false hlo
    by_cases hhi : n ≤ i
    · have HF : Bx (pathT T i n = ([], 9)) := ⟨by unfold pathT; rw [if_pos (by omega)]⟩
      have hq2 : decide (n ≤ i) = true := decide_eq_true hhi
      clear hb1 hn hlo hD hhi
      go_wp2_with fail
      go_ret2
      exact dgp_no HF.out HB.out
    have hq2 : decide (n ≤ i) = false := decide_eq_false hhi
    have HF : Bx (pathT T i n = ((pathL (leavesL (T.take n.toNat) 256) i.toNat 256), 0)) := ⟨by unfold pathT; rw [if_neg (by omega)]⟩
    have HLL : Bx ((leavesL (T.take n.toNat) 256).length = n.toNat) := ⟨hD.len_eq⟩
    have HV : Bx (pV (leavesL (T.take n.toNat) 256) i 256 = (pathL (leavesL (T.take n.toNat) 256) i.toNat 256) ∧ pE n.toNat i = 0) := ⟨by
      have h1 := HLL.out
      exact ⟨by unfold pV; rw [if_pos ⟨by omega, by rw [h1]; omega⟩], by unfold pE; rw [if_pos (by omega)]⟩⟩
    have hlt : n.toNat ≤ 1000000 := by omega
    clear hb1 hn hlo hhi
    go_wp2_with fail
    refine (path_any a n.toNat c (leavesL (T.take n.toNat) 256) i 256 _ HD.out HT1.out hlt).mono ?_
    rintro e w2 ⟨v, rfl, ho, hb2⟩
    have HO2 : Bx (w2.ownsRow w.heap.size 30 32 v (pathL (leavesL (T.take n.toNat) 256) i.toNat 256).length (bv (pathL (leavesL (T.take n.toNat) 256) i.toNat 256).flatten)) := ⟨by
      have h1 := owns_base ho HB.out.size
      rwa [HV.out.1] at h1⟩
    have HB2 := Bx.mk (bstep HB.out hb2)
    rw [HV.out.2]
    clear ho hb2 hD
    go_wp2_with fail
    go_ret2
    exact ⟨v, by rw [HF.out]; rfl, by rw [HF.out]; exact HO2.out, HB2.out⟩
set_option maxHeartbeats 4000000 in
set_option maxRecDepth 100000 in
theorem growth21_any (own : Nat → Prop) (g : Nat) (K : List Int) (T : List (List Int)) (i n : Int) (w : World) (h : Lg w own g K T) (htab : Tab w) :
    Calls Tryd.prog 31 #[.pointer (some ⟨g, 0, none⟩), .int .i64 i, .int .i64 n] w (DgP (growT T i n) w) := by
  have HG := Bx.mk h
  have HT := Bx.mk htab
  have hle := h.le
  clear h htab
  go_enter Tryd.func31, Tryd.ntmps31
  go_wp2_with fail
  refine (leaves21_any own g K T n _ HG.out HT.out).mono ?_
  rintro e w1 (⟨hn, rfl, hb1⟩ | ⟨hn, ⟨a, c, rfl, hD⟩, hb1⟩)
  · have HF : Bx (growT T i n = ([], 9)) := ⟨by unfold growT; rw [if_pos (by omega)]⟩
    have HB := Bx.mk hb1
    clear hb1 hn
    go_wp2_with fail
    go_ret2
    exact dgp_no HF.out HB.out
  · have HB := Bx.mk hb1
    have HD := Bx.mk hD
    have HT1 := Bx.mk (HT.out.below hb1)
    by_cases hlo : i < 1
    · have HF : Bx (growT T i n = ([], 9)) := ⟨by unfold growT; rw [if_pos (by omega)]⟩
      have hq : decide (i < 1) = true := decide_eq_true hlo
      clear hb1 hn hlo hD
      go_wp2_with fail
      go_ret2
      exact dgp_no HF.out HB.out
    have hq : decide (i < 1) = false := decide_eq_false hlo
    by_cases hhi : n < i
    · have HF : Bx (growT T i n = ([], 9)) := ⟨by unfold growT; rw [if_pos (by omega)]⟩
      have hq2 : decide (n < i) = true := decide_eq_true hhi
      clear hb1 hn hlo hD hhi
      go_wp2_with fail
      go_ret2
      exact dgp_no HF.out HB.out
    have hq2 : decide (n < i) = false := decide_eq_false hhi
    have HF : Bx (growT T i n = ((growL (leavesL (T.take n.toNat) 256) i.toNat true 256), 0)) := ⟨by unfold growT; rw [if_neg (by omega)]⟩
    have HLL : Bx ((leavesL (T.take n.toNat) 256).length = n.toNat) := ⟨hD.len_eq⟩
    have HV : Bx (gV (leavesL (T.take n.toNat) 256) i 256 = (growL (leavesL (T.take n.toNat) 256) i.toNat true 256) ∧ gE n.toNat i = 0) := ⟨by
      have h1 := HLL.out
      exact ⟨by unfold gV; rw [if_pos ⟨by omega, by rw [h1]; omega⟩], by unfold gE; rw [if_pos (by omega)]⟩⟩
    have hlt : n.toNat ≤ 1000000 := by omega
    clear hb1 hn hlo hhi
    go_wp2_with fail
    refine (growth_any a n.toNat c (leavesL (T.take n.toNat) 256) i 256 _ HD.out HT1.out hlt).mono ?_
    rintro e w2 ⟨v, rfl, ho, hb2⟩
    have HO2 : Bx (w2.ownsRow w.heap.size 30 32 v (growL (leavesL (T.take n.toNat) 256) i.toNat true 256).length (bv (growL (leavesL (T.take n.toNat) 256) i.toNat true 256).flatten)) := ⟨by
      have h1 := owns_base ho HB.out.size
      rwa [HV.out.1] at h1⟩
    have HB2 := Bx.mk (bstep HB.out hb2)
    rw [HV.out.2]
    clear ho hb2 hD
    go_wp2_with fail
    go_ret2
    exact ⟨v, by rw [HF.out]; rfl, by rw [HF.out]; exact HO2.out, HB2.out⟩
end Go.Proofs.YtbednfacipphhaaDoor
namespace Go.Proofs.YtbednfacipphhaaDoor
open Go.RowKit
set_option linter.unusedVariables false

set_option maxHeartbeats 4000000 in
set_option maxRecDepth 100000 in
theorem refpath21_any (a : Option Addr) (len cap : Nat) (T : List (List Int)) (i n : Int) (w : World) (hT : Txs w a len cap T) (hcap : a = none → cap = 0) (hf : ∀ t ∈ T, t.length ≤ 1000000) (hl : len ≤ 64) (htab : Tab w) :
    Calls Tryd.prog 42 #[.slice a len cap, .int .i64 i, .int .i64 n] w (DgP (pathT T i n) w) := by
  have HT := Bx.mk hT
  have HTB := Bx.mk htab
  have HLL : Bx (T.length = len) := ⟨hT.len_eq⟩
  have hle := hT.le_cap
  by_cases hno : n < 0 ∨ (T.length : Int) < n ∨ i < 0 ∨ n ≤ i
  · have HF : Bx (pathT T i n = ([], 9)) := ⟨by unfold pathT; rw [if_pos hno]⟩
    rw [HLL.out] at hno
    have hd : decide (n < 0) = true ∨ (decide (n < 0) = false ∧ decide ((len : Int) < n) = true) ∨ (decide (n < 0) = false ∧ decide ((len : Int) < n) = false ∧ decide (i < 0) = true) ∨ (decide (n < 0) = false ∧ decide ((len : Int) < n) = false ∧ decide (i < 0) = false ∧ decide (n ≤ i) = true) := by
      by_cases h1 : n < 0
      · exact .inl (decide_eq_true h1)
      by_cases h2 : (len : Int) < n
      · exact .inr (.inl ⟨decide_eq_false h1, decide_eq_true h2⟩)
      by_cases h3 : i < 0
      · exact .inr (.inr (.inl ⟨decide_eq_false h1, decide_eq_false h2, decide_eq_true h3⟩))
      · exact .inr (.inr (.inr ⟨decide_eq_false h1, decide_eq_false h2, decide_eq_false h3, decide_eq_true (by omega)⟩))
    clear hno hT hle hf hl htab hcap
    rcases hd with h1 | ⟨h1, h2⟩ | ⟨h1, h2, h3⟩ | ⟨h1, h2, h3, h4⟩
    all_goals
      go_enter Tryd.func42, Tryd.ntmps42
      go_wp2_with fail
      go_ret2
      exact dgp_no HF.out (Below.refl _ _)
  · have HF : Bx (pathT T i n = ((pathL (leavesL (T.take n.toNat) 256) i.toNat 256), 0)) := ⟨by unfold pathT; rw [if_neg hno]⟩
    rw [HLL.out] at hno
    have hn0 : 0 ≤ n := by omega
    have hn1 : n ≤ (len : Int) := by omega
    have h3 : decide (i < 0) = false := decide_eq_false (by omega)
    have h4 : decide (n ≤ i) = false := decide_eq_false (by omega)
    have HIN : Bx (0 ≤ i ∧ i < n) := ⟨by omega⟩
    obtain ⟨m, rfl⟩ : ∃ m : Nat, n = (m : Int) := ⟨n.toNat, by omega⟩
    rw [Int.toNat_natCast] at HF
    have hml : m ≤ len := by omega
    have h1 : decide ((m : Int) < 0) = false := decide_eq_false (by omega)
    have h2 : decide (len < m) = false := decide_eq_false (by omega)
    have hct := txs_cut a len cap m (Nat.le_trans hml hle) hle hcap
    have HTM := Bx.mk (txs_take hT hml)
    have HFM : Bx (∀ t ∈ T.take m, t.length ≤ 1000000) := ⟨fun t ht => hf t (List.mem_of_mem_take ht)⟩
    have HLN : Bx ((leavesL (T.take m) 256).length = m) := ⟨by rw [leavesL_len, List.length_take, HLL.out]; omega⟩
    have hm64 : m ≤ 64 := by omega
    clear hno hT hle hf hl htab hcap hn0 hn1 hml
    go_enter Tryd.func42, Tryd.ntmps42
    go_wp2_with fail
    refine (refleaves_any a m cap (T.take m) 256 _ HTM.out HFM.out (by omega)).mono ?_
    rintro e w1 ⟨a1, c1, rfl, hD, hb1⟩
    have HD := Bx.mk hD
    have HB := Bx.mk hb1
    have HT1 := Bx.mk (HTB.out.below hb1)
    clear hD hb1
    go_wp2_with fail
    refine (refpath_any a1 m c1 (leavesL (T.take m) 256) i 256 _ HD.out HT1.out (by omega)).mono ?_
    rintro e w2 ⟨v, rfl, ho, hb2⟩
    have HV : Bx (pV (leavesL (T.take m) 256) i 256 = (pathL (leavesL (T.take m) 256) i.toNat 256) ∧ pE m i = 0) := ⟨by
      have h1 := HLN.out
      have h2 := HIN.out
      exact ⟨by unfold pV; rw [if_pos ⟨by omega, by rw [h1]; omega⟩], by unfold pE; rw [if_pos (by omega)]⟩⟩
    have HO2 : Bx (w2.ownsRow w.heap.size 30 32 v (pathL (leavesL (T.take m) 256) i.toNat 256).length (bv (pathL (leavesL (T.take m) 256) i.toNat 256).flatten)) := ⟨by
      have h1 := owns_base ho HB.out.size
      rwa [HV.out.1] at h1⟩
    have HB2 := Bx.mk (bstep HB.out hb2)
    rw [HV.out.2]
    clear ho hb2
    go_wp2_with fail
    go_ret2
    exact ⟨v, by rw [HF.out]; rfl, by rw [HF.out]; exact HO2.out, HB2.out⟩
set_option maxHeartbeats 4000000 in
set_option maxRecDepth 100000 in
theorem refgrowth21_any (a : Option Addr) (len cap : Nat) (T : List (List Int)) (i n : Int) (w : World) (hT : Txs w a len cap T) (hcap : a = none → cap = 0) (hf : ∀ t ∈ T, t.length ≤ 1000000) (hl : len ≤ 64) (htab : Tab w) :
    Calls Tryd.prog 43 #[.slice a len cap, .int .i64 i, .int .i64 n] w (DgP (growT T i n) w) := by
  have HT := Bx.mk hT
  have HTB := Bx.mk htab
  have HLL : Bx (T.length = len) := ⟨hT.len_eq⟩
  have hle := hT.le_cap
  by_cases hno : n < 0 ∨ (T.length : Int) < n ∨ i < 1 ∨ n < i
  · have HF : Bx (growT T i n = ([], 9)) := ⟨by unfold growT; rw [if_pos hno]⟩
    rw [HLL.out] at hno
    have hd : decide (n < 0) = true ∨ (decide (n < 0) = false ∧ decide ((len : Int) < n) = true) ∨ (decide (n < 0) = false ∧ decide ((len : Int) < n) = false ∧ decide (i < 1) = true) ∨ (decide (n < 0) = false ∧ decide ((len : Int) < n) = false ∧ decide (i < 1) = false ∧ decide (n < i) = true) := by
      by_cases h1 : n < 0
      · exact .inl (decide_eq_true h1)
      by_cases h2 : (len : Int) < n
      · exact .inr (.inl ⟨decide_eq_false h1, decide_eq_true h2⟩)
      by_cases h3 : i < 1
      · exact .inr (.inr (.inl ⟨decide_eq_false h1, decide_eq_false h2, decide_eq_true h3⟩))
      · exact .inr (.inr (.inr ⟨decide_eq_false h1, decide_eq_false h2, decide_eq_false h3, decide_eq_true (by omega)⟩))
    clear hno hT hle hf hl htab hcap
    rcases hd with h1 | ⟨h1, h2⟩ | ⟨h1, h2, h3⟩ | ⟨h1, h2, h3, h4⟩
    all_goals
      go_enter Tryd.func43, Tryd.ntmps43
      go_wp2_with fail
      go_ret2
      exact dgp_no HF.out (Below.refl _ _)
  · have HF : Bx (growT T i n = ((growL (leavesL (T.take n.toNat) 256) i.toNat true 256), 0)) := ⟨by unfold growT; rw [if_neg hno]⟩
    rw [HLL.out] at hno
    have hn0 : 0 ≤ n := by omega
    have hn1 : n ≤ (len : Int) := by omega
    have h3 : decide (i < 1) = false := decide_eq_false (by omega)
    have h4 : decide (n < i) = false := decide_eq_false (by omega)
    have HIN : Bx (1 ≤ i ∧ i ≤ n) := ⟨by omega⟩
    obtain ⟨m, rfl⟩ : ∃ m : Nat, n = (m : Int) := ⟨n.toNat, by omega⟩
    rw [Int.toNat_natCast] at HF
    have hml : m ≤ len := by omega
    have h1 : decide ((m : Int) < 0) = false := decide_eq_false (by omega)
    have h2 : decide (len < m) = false := decide_eq_false (by omega)
    have hct := txs_cut a len cap m (Nat.le_trans hml hle) hle hcap
    have HTM := Bx.mk (txs_take hT hml)
    have HFM : Bx (∀ t ∈ T.take m, t.length ≤ 1000000) := ⟨fun t ht => hf t (List.mem_of_mem_take ht)⟩
    have HLN : Bx ((leavesL (T.take m) 256).length = m) := ⟨by rw [leavesL_len, List.length_take, HLL.out]; omega⟩
    have hm64 : m ≤ 64 := by omega
    clear hno hT hle hf hl htab hcap hn0 hn1 hml
    go_enter Tryd.func43, Tryd.ntmps43
    go_wp2_with fail
    refine (refleaves_any a m cap (T.take m) 256 _ HTM.out HFM.out (by omega)).mono ?_
    rintro e w1 ⟨a1, c1, rfl, hD, hb1⟩
    have HD := Bx.mk hD
    have HB := Bx.mk hb1
    have HT1 := Bx.mk (HTB.out.below hb1)
    clear hD hb1
    go_wp2_with fail
    refine (refgrowth_any a1 m c1 (leavesL (T.take m) 256) i 256 _ HD.out HT1.out (by omega)).mono ?_
    rintro e w2 ⟨v, rfl, ho, hb2⟩
    have HV : Bx (gV (leavesL (T.take m) 256) i 256 = (growL (leavesL (T.take m) 256) i.toNat true 256) ∧ gE m i = 0) := ⟨by
      have h1 := HLN.out
      have h2 := HIN.out
      exact ⟨by unfold gV; rw [if_pos ⟨by omega, by rw [h1]; omega⟩], by unfold gE; rw [if_pos (by omega)]⟩⟩
    have HO2 : Bx (w2.ownsRow w.heap.size 30 32 v (growL (leavesL (T.take m) 256) i.toNat true 256).length (bv (growL (leavesL (T.take m) 256) i.toNat true 256).flatten)) := ⟨by
      have h1 := owns_base ho HB.out.size
      rwa [HV.out.1] at h1⟩
    have HB2 := Bx.mk (bstep HB.out hb2)
    rw [HV.out.2]
    clear ho hb2
    go_wp2_with fail
    go_ret2
    exact ⟨v, by rw [HF.out]; rfl, by rw [HF.out]; exact HO2.out, HB2.out⟩
end Go.Proofs.YtbednfacipphhaaDoor
namespace Go.Proofs.YtbednfacipphhaaDoor
open Go.RowKit
set_option linter.unusedVariables false

set_option maxRecDepth 100000 in
theorem ot_nil (w : World) : OT w.heap.size (.slice none 0 0) [] w w := ⟨Below.refl _ _, Nat.le_refl _, [], World.ownsRow_nil _ _ _ _, fun i hi => absurd hi (Nat.not_lt_zero _)⟩
set_option maxRecDepth 100000 in
/-- bytes that are new are none of an own list's -/
theorem ot_far {N n c : Nat} {v : Value} {L : List (List Int)} {w wr w3 : World} {a : Option Addr} {xs : List Value} (h : OT N v L w wr) (ho : w3.ownsRow wr.heap.size 5 1 (.slice a n c) n xs) : 0 < n → ∀ p, a = some p → v.ownBlock ≠ some p.block := by
  intro hp p e e2
  obtain ⟨ys, hy, _⟩ := h.own
  exact own_far ho (hy.lt p.block e2).2 hp p e rfl
set_option maxHeartbeats 4000000 in
set_option maxRecDepth 100000 in
theorem texts21_any (own : Nat → Prop) (g : Nat) (K : List Int) (T : List (List Int)) (w : World) (h : Lg w own g K T) :
    Calls Tryd.prog 17 #[.pointer (some ⟨g, 0, none⟩)] w fun e w' => ∃ v, e = .returned v ∧ OT w.heap.size v T w w' := by
  have HG := Bx.mk h
  have HTL : Bx (T.length ≤ 64) := ⟨h.le⟩
  have hOT : OT w.heap.size (.slice none 0 0) (T.take 0) w w := ot_nil w
  obtain ⟨n, HN⟩ : ∃ n, Bx (T.length = n) := ⟨_, ⟨rfl⟩⟩
  obtain ⟨N, HNN⟩ : ∃ N, Bx (N = w.heap.size) := ⟨_, ⟨rfl⟩⟩
  rw [← HNN.out] at hOT
  have hS := size21_yes h
  rw [HN.out] at hS
  have hn64 : n ≤ 64 := by rw [← HN.out]; exact HTL.out
  clear h
  go_enter Tryd.func17, Tryd.ntmps17
  go_wp2_with fail
  refine hS.mono ?_
  rintro e wz ⟨rfl, hwz⟩
  subst hwz
  go_wp2_with fail
  clear hS
  go_loopw [3, 7] (fun v i wr => ∃ k : Nat, k ≤ n ∧ i = .int .i64 k ∧ Bx (OT N v (T.take k) w wr)) (fun _ i _ => n - (intOf i).toNat)
  case atStart => exact ⟨0, Nat.zero_le _, rfl, ⟨hOT⟩⟩
  case round =>
    clear hOT
    obtain ⟨k, hk, rfl, HO⟩ := hrel
    obtain ⟨vAll, hvAll⟩ : ∃ vAll, vAll = u3 := ⟨_, rfl⟩
    subst hvAll
    have HLW : Bx (Below w.heap.size w wr) := ⟨by rw [← HNN.out]; exact HO.out.low⟩
    by_cases hlt : k < n
    · have g1 : (k : Int) < (n : Int) := by omega
      have hk64 : (k : Int) < 64 := by omega
      obtain ⟨ai, li, ci, hcell, hbt, hli0⟩ := (HG.out.below HLW.out).ct k (by rw [HN.out]; exact hlt)
      have HMO : Bx (T.take (k + 1) = T.take k ++ [T.getD k []]) := ⟨takeT T k (by rw [HN.out]; exact hlt)⟩
      have HLL : Bx ((T.take k).length = k) := ⟨by rw [List.length_take, HN.out]; omega⟩
      generalize T.getD k [] = y at hbt HMO
      have HBT := Bx.mk hbt
      have hli : li ≤ 1000000 := by omega
      clear hli0 hbt
      go_wp2_with fail
      refine (bclone_any ai li ci y _ HBT.out hli).mono ?_
      rintro e w3 ⟨v3, rfl, hown3, hb3⟩
      obtain ⟨a3, c3, rfl, hm3⟩ := Bts.of_owns hown3 HBT.out.byt
      have HFAR := Bx.mk (ot_far HO.out hown3)
      have hO3 := HO.out.step hb3
      obtain ⟨i0, hi, hz0, hz1, hz2⟩ := info_parts Tryd.info22
      obtain ⟨xs, hown, hxs⟩ := hO3.own
      have HXS := Bx.mk hxs
      have HXL : Bx (xs.length = (T.take k).length) := ⟨by have := hown.1; omega⟩
      have HVB : Bx (∀ j, vAll.ownBlock = some j → N ≤ j) := ⟨fun j hj => (hown.lt j hj).1⟩
      have hsz := hO3.size
      have HO3 := Bx.mk hO3
      have HM3 := Bx.mk hm3
      rw [HLL.out] at hown
      clear hown3 hm3 hb3 hxs hO3 HO hcell
      go_wp2_with (at_builtin; refine wpList_append_lies _ rfl (.tmp 10) (.tmp 18) 28 rfl N 22 i0 (.slice none 0 0) 1 24 Tryd.underlying28 hi hz0 hz1 hz2 rfl (by decide) _ k xs rfl (hown.alloc _) ⟨w3.heap.size, 0, none⟩ 1 1 [.slice a3 li c3] rfl rfl (cell_one_new _ _ _) (by simp [Value.oneCell']) (by decide) (by unfold maxLen; omega) (by omega) (by simp; omega) _ rfl ?_; intro g4 cap4 w4 hown4 hgr4 hl4 _)
      have HO4 : Bx (OT N (.slice (some ⟨g4, 0, none⟩) (k + 1) cap4) (T.take (k + 1)) w w4) := ⟨by
        have h := OT.app (g := g4) (cap := cap4) (w' := w4) HO3.out HM3.out HFAR.out rfl HXS.out HXL.out HVB.out (by rw [HLL.out]; exact hown4) hgr4 hl4
        rw [HLL.out, ← HMO.out] at h
        exact h⟩
      clear hown4 hgr4 hl4 hown hi hz0 hz1 hz2
      go_roundw
      case rel => exact ⟨k + 1, by omega, by go_num, HO4⟩
      case measure => simp [intOf]; omega
    · have g1 : ¬ (k : Int) < (n : Int) := by omega
      obtain rfl : k = n := by omega
      have HE : Bx (T.take k = T) := ⟨List.take_of_length_le (by rw [HN.out]; exact Nat.le_refl _)⟩
      rw [HE.out] at HO
      go_wp2
      go_ret
      exact ⟨_, rfl, by rw [← HNN.out]; exact HO.out⟩
end Go.Proofs.YtbednfacipphhaaDoor
namespace Go.Proofs.YtbednfacipphhaaDoor
open Go.RowKit
set_option linter.unusedVariables false

/-- how Add ends -/
def RaP (N : Nat) (v : Value) (T : List (List Int)) (e : En) (w0 w : World) (x : Ending) (w' : World) : Prop :=
  ∃ v', x = .returned (.tuple #[v', .int .i64 (addT T e).2]) ∧ OT N v' (addT T e).1 w0 w' ∧ Kept (fun b => v.ownBlock = some b) w w' ∧ ∀ b, v'.ownBlock = some b → v.ownBlock = some b ∨ w.heap.size ≤ b
set_option maxRecDepth 100000 in
theorem rap_stay {N : Nat} {v : Value} {T : List (List Int)} {e : En} {w0 w w' : World} {x : Int} (h : OT N v T w0 w) (hb : Below w.heap.size w w') (hr : addT T e = (T, x)) : RaP N v T e w0 w (.returned (.tuple #[v, .int .i64 x])) w' :=
  ⟨v, by rw [hr], by rw [hr]; exact h.step hb, Kept.of_below hb, fun b hb => .inl hb⟩
set_option maxHeartbeats 4000000 in
set_option maxRecDepth 100000 in
theorem radd21_any (N : Nat) (ta : Option Addr) (tc : Nat) (T : List (List Int)) (w0 : World) (e : En) (a : Option Addr) (n c : Nat) (w : World) (hO : OT N (.slice ta T.length tc) T w0 w) (hi : Ivs w a n c e.o) (hd : EnD e) (h64 : T.length ≤ 64) :
    Calls Tryd.prog 13 #[.slice ta T.length tc, .agg (enA e a n c)] w (RaP N (.slice ta T.length tc) T e w0 w) := by
  have hb0 : Below w.heap.size w (w.alloc (.cells (enA e a n c) 35)) := (Below.refl _ _).alloc (Nat.le_refl _) _
  have hr0 := EnB.new (a := a) (n := n) (c := c) w hd
  obtain ⟨g0, HG⟩ : ∃ g0, Bx (g0 = w.heap.size) := ⟨_, ⟨rfl⟩⟩
  rw [← HG.out] at hr0
  have HO := Bx.mk hO
  have HB0 := Bx.mk hb0
  have HIV := Bx.mk (hi.below hb0)
  have HR := Bx.mk hr0
  have HD := Bx.mk hd
  have HAD : Bx (addT T e = if chkN e ≠ 0 then (T, chkN e) else if 64 ≤ T.length then (T, 11) else if e.j ≠ (T.length : Int) then (T, 2) else (T ++ [enL e], 0)) := ⟨rfl⟩
  clear hb0 hr0 hd hi hO
  go_enter Tryd.func13, Tryd.ntmps13
  go_upto_region 1 with fail
  rw [← HG.out]
  generalize w.alloc (.cells (enA e a n c) 35) = wa at HB0 HIV HR ⊢
  go_wp2_with (refine wpList_load_en rfl (.tmp 3) rfl rfl HR.out ?_)
  refine (refencode20_any e a n c _ HIV.out HD.out).mono ?_
  rintro x w1 ⟨v1, rfl, ho1, hb1⟩
  have HB1 := Bx.mk (bstep HB0.out hb1)
  have HR1 := Bx.mk (HR.out.below hb1)
  have HO1 := Bx.mk ho1
  have HS1 := Bx.mk HB0.out.size
  clear hb1 ho1 HB0 HR HIV
  rcases chkN_ways e with hok | hok
  · have HCN := Bx.mk (chkN_can hok)
    have HEN := Bx.mk (encN_ok hok)
    rw [hok]
    rw [HEN.out] at HO1
    rw [if_neg (fun hh => hh hok)] at HAD
    clear hok HEN
    by_cases hf : 64 ≤ T.length
    · have HF : Bx (addT T e = (T, 11)) := ⟨by rw [HAD.out, if_pos hf]⟩
      have hfI : (64 : Int) ≤ (T.length : Int) := by omega
      have hq : decide ((T.length : Int) ≥ 64) = true := decide_eq_true hfI
      go_wp2_with fail
      go_ret2
      exact rap_stay HO.out HB1.out HF.out
    · rw [if_neg hf] at HAD
      have hfI : ¬ (64 : Int) ≤ (T.length : Int) := by omega
      have c0 := HR1.out.c0
      by_cases hj : e.j = (T.length : Int)
      · rw [if_neg (fun hh => hh hj)] at HAD
        have HF : Bx (addT T e = (T ++ [enL e], 0)) := HAD
        have hqj : (e.j != (T.length : Int)) = false := by simp [hj]
        obtain ⟨a3, c3, hv3, hm3⟩ := Bts.of_owns HO1.out (enL_byt HCN.out HD.out.1 HD.out.2)
        subst hv3
        have HFAR : Bx (0 < (enL e).length → ∀ p, a3 = some p → (Value.slice ta T.length tc).ownBlock ≠ some p.block) := ⟨fun hp p ep e2 => by
          obtain ⟨ys, hy, _⟩ := HO.out.own
          have h1 := (hy.lt p.block e2).2
          have h2 := (HO1.out.lt p.block (by rw [ep]; rfl)).1
          have h3 := HS1.out
          omega⟩
        have HM3 := Bx.mk hm3
        have hO3 := HO.out.step HB1.out
        obtain ⟨i0, hi, hz0, hz1, hz2⟩ := info_parts Tryd.info22
        obtain ⟨xs, hown, hxs⟩ := hO3.own
        have HXS := Bx.mk hxs
        have HXL : Bx (xs.length = T.length) := ⟨by have := hown.1; omega⟩
        have HVB : Bx (∀ j, (Value.slice ta T.length tc).ownBlock = some j → N ≤ j) := ⟨fun j hj => (hown.lt j hj).1⟩
        have hsz := hO3.size
        have HO3 := Bx.mk hO3
        generalize e.j = jj at c0 hqj hj
        clear hj hxs hO3 hf hm3
        go_wp2_with (at_builtin; refine wpList_append_lies _ rfl (.tmp 27) (.tmp 29) 28 rfl N 22 i0 (.slice none 0 0) 1 24 Tryd.underlying28 hi hz0 hz1 hz2 rfl (by decide) _ T.length xs rfl (hown.alloc _) ⟨w1.heap.size, 0, none⟩ 1 1 [.slice a3 (enL e).length c3] rfl rfl (cell_one_new _ _ _) (by simp [Value.oneCell']) (by decide) (by unfold maxLen; omega) (by omega) (by simp; omega) _ rfl ?_; intro g4 cap4 w4 hown4 hgr4 hl4 _)
        have HO4 : Bx (OT N (.slice (some ⟨g4, 0, none⟩) (T.length + 1) cap4) (T ++ [enL e]) w0 w4) := ⟨OT.app (g := g4) (cap := cap4) (w' := w4) HO3.out HM3.out HFAR.out rfl HXS.out HXL.out HVB.out hown4 hgr4 hl4⟩
        have hbA : Below w1.heap.size w1 (w1.alloc (.cells #[.slice a3 (enL e).length c3] 22)) := (Below.refl _ _).alloc (Nat.le_refl _) _
        have HK4 : Bx (Kept (fun b => (Value.slice ta T.length tc).ownBlock = some b) w w4) := ⟨(Kept.of_below (bstep HB1.out hbA)).grown hgr4 (fun k hk => .inl hk)⟩
        have HN4 : Bx (∀ b, (Value.slice (some ⟨g4, 0, none⟩) (T.length + 1) cap4).ownBlock = some b → (Value.slice ta T.length tc).ownBlock = some b ∨ w.heap.size ≤ b) := ⟨fun b hb => by
          have hb2 : g4 = b := Option.some.inj hb
          subst hb2
          rcases hl4 with h | h
          · exact .inl h
          · right
            have h1 := HB1.out.size
            have h2 := hbA.size
            omega⟩
        clear hown4 hgr4 hl4 hown hi hz0 hz1 hz2 hbA
        go_wp2_with fail
        go_ret2
        exact ⟨_, by rw [HF.out]; rfl, by rw [HF.out]; exact HO4.out, HK4.out, HN4.out⟩
      · rw [if_pos hj] at HAD
        have HF : Bx (addT T e = (T, 2)) := HAD
        have hqj : (e.j != (T.length : Int)) = true := by simp [hj]
        generalize e.j = jj at c0 hqj hj
        clear hj hf
        go_wp2_with fail
        go_ret2
        exact rap_stay HO.out HB1.out HF.out
  · rw [hok]
    have HF : Bx (addT T e = (T, 2)) := ⟨by rw [HAD.out, if_pos (by rw [hok]; decide), hok]⟩
    clear hok
    go_wp2_with fail
    go_ret2
    exact rap_stay HO.out HB1.out HF.out
end Go.Proofs.YtbednfacipphhaaDoor
namespace Go.Proofs.YtbednfacipphhaaDoor
open Go.RowKit
set_option linter.unusedVariables false

set_option maxHeartbeats 4000000 in
set_option maxRecDepth 100000 in
theorem refhead21_any (ka : Option Addr) (kn kc : Nat) (KY : List Int) (a : Option Addr) (len cap : Nat) (T : List (List Int)) (w : World) (hk : Bts w ka kn kc KY) (hkn : kn ≤ 1000000) (hT : Txs w a len cap T) (hf : ∀ t ∈ T, t.length ≤ 1000000) (hl : len ≤ 64) (htab : Tab w) :
    Calls Tryd.prog 45 #[.slice ka kn kc, .slice a len cap] w fun e w' => e = .returned (.agg (hdA (sgn KY (hdD (leavesL T 256))))) ∧ Below w.heap.size w w' := by
  have hb1 : Below w.heap.size w (w.alloc (.cells (hdA hd0) 47)) := (Below.refl _ _).alloc (Nat.le_refl _) _
  have HV : Bx (NV 47 97 w.heap.size w.heap.size (w.alloc (.cells (hdA hd0) 47))) := ⟨NV.new (Nat.le_refl _) (hdA_size hd0_dg)⟩
  have HT := Bx.mk (hT.below hb1)
  have HTB := Bx.mk (htab.below hb1)
  have HKB := Bx.mk (hk.below hb1)
  have HB := Bx.mk hb1
  have HLN : Bx ((leavesL T 256).length = len) := ⟨by rw [leavesL_len, hT.len_eq]⟩
  have HF := Bx.mk hf
  have hzv := hd0_run
  obtain ⟨gr, HGR⟩ : ∃ gr, Bx (gr = w.heap.size) := ⟨_, ⟨rfl⟩⟩
  have HGR' : Bx (w.heap.size ≤ gr) := ⟨by rw [HGR.out]; exact Nat.le_refl _⟩
  rw [← HGR.out] at HV
  have HCH := Bx.mk (chnD_leaves T)
  clear hb1 hT htab hf hk
  go_enter Tryd.func45, Tryd.ntmps45
  go_upto_region 1 with fail
  rw [← HGR.out]
  generalize w.alloc (.cells (hdA hd0) 47) = w0 at HV HT HTB HKB HB ⊢
  go_wp2_with fail
  refine (refleaves_any a len cap T 256 _ HT.out HF.out (by omega)).mono ?_
  rintro e w1 ⟨a1, c1, rfl, hD, hb1⟩
  have HD1 := Bx.mk hD
  have HV1 := Bx.mk (HV.out.step hb1)
  have HT1 := Bx.mk (HT.out.below hb1)
  have HTB1 := Bx.mk (HTB.out.below hb1)
  have HKB1 := Bx.mk (HKB.out.below hb1)
  have HB1 := Bx.mk (bstep HB.out hb1)
  clear hD hb1 HV HT HTB HKB HB
  go_wp2_with fail
  refine (refroot_any len a1 len c1 (leavesL T 256) 256 _ (Nat.le_refl _) HD1.out HTB1.out (by omega)).mono ?_
  rintro e w2 ⟨rfl, hb2⟩
  have HV2 := Bx.mk (HV1.out.step hb2)
  have HT2 := Bx.mk (HT1.out.below hb2)
  have HTB2 := Bx.mk (HTB1.out.below hb2)
  have HKB2 := Bx.mk (HKB1.out.below hb2)
  have HB2 := Bx.mk (bstep HB1.out hb2)
  clear hb2 HV1 HT1 HTB1 HKB1 HB1 HD1
  go_wp2_with fail
  refine (refchain21_any a len cap T _ HT2.out HF.out).mono ?_
  rintro e w3 ⟨rfl, hb3⟩
  have HV3 := Bx.mk (HV2.out.step hb3)
  have HTB3 := Bx.mk (HTB2.out.below hb3)
  have HKB3 := Bx.mk (HKB2.out.below hb3)
  have HB3 := Bx.mk (bstep HB2.out hb3)
  clear hb3 HV2 HT2 HTB2 HKB2 HB2
  have HHD : Bx (HdD (hdD (leavesL T 256))) := ⟨hdD_dg _ (leavesL_dg _ _)⟩
  have hbd := head_build (len : Int) (rootL (leavesL T 256) 256) (chnT T) (rootL_dg _ _ (leavesL_dg _ _)) (chnT_dg T) w3
  have HE : Bx ((⟨(len : Int), rootL (leavesL T 256) 256, chnT T, dz⟩ : Hd) = hdD (leavesL T 256)) := ⟨by rw [← HLN.out, ← HCH.out]; rfl⟩
  rw [HE.out] at hbd
  have HBD := Bx.mk hbd
  clear hbd HE HCH HLN
  obtain ⟨H0, HH0⟩ : ∃ H0, Bx (hdD (leavesL T 256) = H0) := ⟨_, ⟨rfl⟩⟩
  rw [HH0.out] at HHD HBD
  generalize (bv (rootL (leavesL T 256) 256)).toArray = DR at HBD ⊢
  generalize (bv (chnT T)).toArray = DC at HBD ⊢
  obtain ⟨hv, hbv, hth⟩ := hd_var w3 HHD.out
  have HVV := Bx.mk hv
  have HTH := Bx.mk hth
  have HIH := Bx.mk (hdA_info HHD.out)
  have HOH : Bx ((hdA H0).all (·.oneCell') = true) := ⟨hdA_one⟩
  have HV4 := Bx.mk (HV3.out.step hbv)
  have HTB4 := Bx.mk (HTB3.out.below hbv)
  have HKB4 := Bx.mk (HKB3.out.below hbv)
  have HB4 := Bx.mk (bstep HB3.out hbv)
  have HLT : Bx (w.heap.size ≤ w3.heap.size ∧ gr < w3.heap.size) := ⟨HB3.out.size, HV3.out.lt⟩
  clear hv hbv hth HV3 HTB3 HKB3 HB3
  go_upto_region 2 with (first
    | (refine wpList_build_hd rfl (.tmp 7) (.tmp 10) (.tmp 12) rfl (.int .i64 (len : Int)) (.agg DR) (.agg DC) (hdA H0) rfl rfl rfl HBD.out ?_)
    | (refine wpList_store_mid rfl 47 (.tmp 5) (.tmp 13) rfl w3.heap.size 0 (hdA H0) rfl rfl ?hu HIH.out HOH.out ?_; (case hu => exact HTH.out)))
  clear hzv HTH HIH HOH HBD
  obtain ⟨g5, HG5⟩ : ∃ g5, Bx (g5 = w3.heap.size) := ⟨_, ⟨rfl⟩⟩
  rw [← HG5.out] at HVV HV4 HTB4 HKB4 HB4 HLT ⊢
  generalize (w3.alloc (.cells (hdA hd0) 47)).setCells g5 0 (hdA H0).toList = w4 at HVV HV4 HTB4 HKB4 HB4 ⊢
  go_wp2_with (refine wpList_load_hd rfl (.tmp 5) rfl rfl HVV.out ?_)
  refine (refheadtext_any H0 _ HHD.out HTB4.out).mono ?_
  rintro e w5 ⟨v5, rfl, ho5, hb5⟩
  obtain ⟨at1, ct1, rfl, hT5⟩ := Bts.of_owns ho5 (headL_byt HHD.out.R HHD.out.C)
  have HTX := Bx.mk hT5
  have HVV5 := Bx.mk (HVV.out.below hb5)
  have HV5 := Bx.mk (HV4.out.step hb5)
  have HKB5 := Bx.mk (HKB4.out.below hb5)
  have HB5 := Bx.mk (bstep HB4.out hb5)
  clear ho5 hT5 hb5 HVV HV4 HTB4 HKB4 HB4
  go_wp2_with fail
  refine (refmac_any ka at1 kn 72 kc ct1 KY (headL H0) _ HKB5.out HTX.out (by omega) (by decide)).mono ?_
  rintro e w6 ⟨rfl, hb6⟩
  have HVV6 := Bx.mk (HVV5.out.below hb6)
  have HV6 := Bx.mk (HV5.out.step hb6)
  have HB6 := Bx.mk (bstep HB5.out hb6)
  have HMD : Bx (Dg (macL KY (headL H0))) := ⟨⟨macL_len _ _, macL_byt _ _⟩⟩
  have HES : Bx ((⟨H0.n, H0.R, H0.C, macL KY (headL H0)⟩ : Hd) = sgn KY H0) := ⟨rfl⟩
  have HS : Bx (HdD (sgn KY H0)) := ⟨sgn_digs HHD.out⟩
  clear hb6 HVV5 HV5 HKB5 HB5 HTX
  generalize macL KY (headL H0) = M at HMD HES ⊢
  have HTH : Bx (w6.there g5 65 (bv M).toArray.size) := ⟨by rw [dgv_size HMD.out]; exact HVV6.out.thereAt 65 32 (by decide)⟩
  have HI := Bx.mk (dgv_info HMD.out)
  have HO := Bx.mk (dgv_one M)
  have HVV7 : Bx (HdB (w6.setCells g5 65 (bv M).toArray.toList) g5 (sgn KY H0)) := ⟨by rw [← HES.out]; exact HVV6.out.setG HMD.out⟩
  have HV7 : Bx (NV 47 97 gr gr (w6.setCells g5 65 (bv M).toArray.toList)) := ⟨by
    obtain ⟨cs, e1, e2⟩ := HV6.out.row
    exact ⟨HV6.out.ge, cs, e1, (setCells_other (by have := HLT.out; omega) _ _).trans e2⟩⟩
  have HB7 : Bx (Below w.heap.size w (w6.setCells g5 65 (bv M).toArray.toList)) := ⟨below_setCells HB6.out g5 HLT.out.1 _ _⟩
  clear HVV6 HV6 HB6 HES
  go_upto_region 3 with (refine wpList_store_mid rfl 30 (.tmp 18) (.tmp 17) rfl g5 65 (bv M).toArray rfl rfl ?hq HI.out HO.out ?_; (case hq => exact HTH.out))
  generalize w6.setCells g5 65 (bv M).toArray.toList = w7 at HVV7 HV7 HB7 ⊢
  clear HTH HI HO
  have HTR : Bx (w7.there gr 0 (hdA (sgn KY H0)).size) := ⟨HV7.out.hd_there HS.out⟩
  have HIR := Bx.mk (hdA_info HS.out)
  have HOR : Bx ((hdA (sgn KY H0)).all (·.oneCell') = true) := ⟨hdA_one⟩
  have HST : Bx (HdB (w7.setCells gr 0 (hdA (sgn KY H0)).toList) gr (sgn KY H0)) := ⟨HV7.out.hd HS.out⟩
  have HL8 : Bx (Below w.heap.size w (w7.setCells gr 0 (hdA (sgn KY H0)).toList)) := ⟨below_setCells HB7.out gr HGR'.out _ _⟩
  go_wp2_with (first
    | (refine wpList_load_hd rfl (.tmp 5) rfl rfl HVV7.out ?_)
    | (refine wpList_store_mid rfl 47 (.tmp 4) (.tmp 19) rfl gr 0 (hdA (sgn KY H0)) rfl rfl ?hr HIR.out HOR.out ?_; (case hr => exact HTR.out)))
  exact bodyPost_ret (v := .agg (hdA (sgn KY H0))) (results_cell_row rfl _ _ gr 47 (hdA (sgn KY H0)) (0, 0) _ rfl HST.out.row Tryd.underlying47 rfl HIR.out) rfl ⟨by rw [HH0.out], HL8.out⟩
end Go.Proofs.YtbednfacipphhaaDoor
namespace Go.Proofs.YtbednfacipphhaaDoor
open Go.RowKit
set_option linter.unusedVariables false

/-- how Head ends -/
def HtP (r : Hd × Int) (w : World) (e : Ending) (w' : World) : Prop := e = .returned (.tuple #[.agg (hdA r.1), .int .i64 r.2]) ∧ Below w.heap.size w w'
set_option maxRecDepth 100000 in
theorem headT_no {k : List Int} {T : List (List Int)} {n : Int} (h : n < 0 ∨ (T.length : Int) < n) : headT k T n = (hd0, 9) := by unfold headT; rw [if_pos h]
set_option maxRecDepth 100000 in
theorem headT_yes {k : List Int} {T : List (List Int)} {n : Int} (h : 0 ≤ n ∧ n ≤ (T.length : Int)) : headT k T n = (sgn k (hdD (leavesL (T.take n.toNat) 256)), 0) := by
  unfold headT
  rw [if_neg (by omega)]
  have e1 : hdD (leavesL (T.take n.toNat) 256) = ⟨((T.take n.toNat).length : Int), rootL (leavesL (T.take n.toNat) 256) 256, chnT (T.take n.toNat), dz⟩ := by
    unfold hdD; rw [leavesL_len, chnD_leaves]
  rw [e1]; rfl
set_option maxRecDepth 100000 in
theorem hd0_build : ∀ W : World, (Instr.build 47 #[]).run Tryd.prog W = .ok (.agg (hdA hd0)) W := fun W => by kernel_rfl
set_option maxRecDepth 100000 in
theorem wpList_build_hd0 {ops : Array Oper} {rest : List Oper} {o : Oper} {a : Act} {w : World} {Q : Exit → Act → World → Prop} (hw : Region.wanted o (yielded ops a.tmps) = true) (ho : o.op = .build 47 #[])
    (h : wpList Tryd.prog ops Q rest (a.put o.dst (.agg (hdA hd0))) w) : wpList Tryd.prog ops Q (o :: rest) a w :=
  wpList_step fun K hK => by
    rw [if_pos hw]
    unfold Oper.wp execOp
    simp [ho, hd0_build]
    exact hK _ _ h
/-- what holds while Head goes on -/
structure HHX (g gr : Nat) (ka : Option Addr) (kn kc : Nat) (KY : List Int) (a : Option Addr) (m c : Nat) (L : List (List Int)) (w W : World) : Prop where
  ck : W.cell? ⟨g, 1, none⟩ = some (.slice ka kn kc)
  kb : Bts W ka kn kc KY
  dg : Dgs W a m c L
  tab : Tab W
  lt : g < W.heap.size
  nv : NV 47 97 gr gr W
  low : Below w.heap.size w W
set_option maxRecDepth 100000 in
theorem HHX.step {g gr : Nat} {ka : Option Addr} {kn kc : Nat} {KY : List Int} {a : Option Addr} {m c : Nat} {L : List (List Int)} {w W W' : World} (h : HHX g gr ka kn kc KY a m c L w W) (hb : Below W.heap.size W W') : HHX g gr ka kn kc KY a m c L w W' :=
  ⟨(hb.cell h.lt).trans h.ck, h.kb.below hb, h.dg.below hb, h.tab.below hb, Nat.lt_of_lt_of_le h.lt hb.size, h.nv.step hb, bstep h.low hb⟩
set_option maxHeartbeats 4000000 in
set_option maxRecDepth 100000 in
theorem head21_any (own : Nat → Prop) (g : Nat) (KY : List Int) (T : List (List Int)) (n : Int) (w : World) (h : Lg w own g KY T) (htab : Tab w) :
    Calls Tryd.prog 28 #[.pointer (some ⟨g, 0, none⟩), .int .i64 n] w (HtP (headT KY T n) w) := by
  have hb1 : Below w.heap.size w (w.alloc (.cells (hdA hd0) 47)) := (Below.refl _ _).alloc (Nat.le_refl _) _
  have HV : Bx (NV 47 97 w.heap.size w.heap.size (w.alloc (.cells (hdA hd0) 47))) := ⟨NV.new (Nat.le_refl _) (hdA_size hd0_dg)⟩
  have HG := Bx.mk (h.below hb1)
  have HT := Bx.mk (htab.below hb1)
  have HB := Bx.mk hb1
  have HKL : Bx (KY.length ≤ 1000000) := ⟨h.kle⟩
  have HNE : Bx (g ≠ w.heap.size) := ⟨Nat.ne_of_lt h.glt⟩
  have hle := h.le
  have hzv := hd0_run
  obtain ⟨gr, HGR⟩ : ∃ gr, Bx (gr = w.heap.size) := ⟨_, ⟨rfl⟩⟩
  rw [← HGR.out] at HV HNE
  clear hb1 h htab
  go_enter Tryd.func28, Tryd.ntmps28
  go_upto_region 1 with fail
  rw [← HGR.out]
  generalize w.alloc (.cells (hdA hd0) 47) = w0 at HV HG HT HB ⊢
  clear hzv
  go_wp2_with fail
  refine (leaves21_any own g KY T n _ HG.out HT.out).mono ?_
  rintro e w1 (⟨hn, rfl, hb1⟩ | ⟨hn, ⟨a, c, rfl, hD⟩, hb1⟩)
  · have HF := Bx.mk (headT_no (k := KY) hn)
    have HV1 := Bx.mk (HV.out.step hb1)
    have HB1 := Bx.mk (bstep HB.out hb1)
    clear hb1 hn HV HB
    have HTR : Bx (w1.there gr 0 (hdA hd0).size) := ⟨HV1.out.hd_there hd0_dg⟩
    have HIR := Bx.mk (hdA_info hd0_dg)
    have HOR : Bx ((hdA hd0).all (·.oneCell') = true) := ⟨hdA_one⟩
    have HST : Bx (HdB (w1.setCells gr 0 (hdA hd0).toList) gr hd0) := ⟨HV1.out.hd hd0_dg⟩
    have HBS : Bx (Below w.heap.size w (w1.setCells gr 0 (hdA hd0).toList)) := ⟨below_setCells HB1.out gr (by rw [HGR.out]; exact Nat.le_refl _) _ _⟩
    go_wp2_with (first
      | (refine wpList_build_hd0 rfl rfl ?_)
      | (refine wpList_store_mid rfl 47 (.tmp 4) (.tmp 16) rfl gr 0 (hdA hd0) rfl rfl ?hu HIR.out HOR.out ?_; (case hu => exact HTR.out)))
    exact bodyPost_ret (v := .tuple #[.agg (hdA hd0), .int .i64 9]) (results_ch rfl _ _ gr hd0 _ rfl rfl HST.out) rfl ⟨by rw [HF.out], HBS.out⟩
  · have HF := Bx.mk (headT_yes (k := KY) hn)
    have hd1 := hdD_dg _ hD.dig
    have HD1 := Bx.mk hd1
    have HS1 : Bx (HdD (sgn KY (hdD (leavesL (T.take n.toNat) 256)))) := ⟨sgn_digs hd1⟩
    have HLT : Bx (n.toNat ≤ 1000) := ⟨by omega⟩
    obtain ⟨ka, kn, kc, hck, hkb⟩ := (HG.out.below hb1).c1
    have HKN : Bx (kn ≤ 1000000) := ⟨by rw [← hkb.len_eq]; exact HKL.out⟩
    have HB1 := Bx.mk (bstep HB.out hb1)
    have hS : w1.cell? ⟨g, 1, none⟩ = some (.slice ka kn kc) ∧ Bts w1 ka kn kc KY ∧ Dgs w1 a n.toNat c (leavesL (T.take n.toNat) 256) ∧ Tab w1 ∧ g < w1.heap.size ∧ NV 47 97 gr gr w1 ∧ Below w.heap.size w w1 := ⟨hck, hkb, hD, HT.out.below hb1, (HG.out.below hb1).glt, HV.out.step hb1, HB1.out⟩
    clear hck hkb hD hb1 hn HV HB hd1 HB1 HG HT
    generalize leavesL (T.take n.toNat) 256 = L at HF HD1 HS1 hS
    generalize n.toNat = m at hS HLT
    obtain ⟨q1, q2, q3, q4, q5, q6, q7⟩ := hS
    go_wp2_with fail
    have hk : w1.drew.cell? ⟨g, 1, none⟩ = some (.slice ka kn kc) := q1
    have hx : HHX g gr ka kn kc KY a m c L w w1.drew := ⟨q1, q2.drewN 1, q3.drewN 1, q4.drewN 1, q5, q6.step ((Below.refl _ _).drew), below_drewN q7 1⟩
    clear q1 q2 q3 q4 q5 q6 q7
    refine wp_region_held_drew (S := fun W => W.cell? ⟨g, 1, none⟩ = some (.slice ka kn kc)) (by kernel_rfl) hk (fun _ => ?_)
    generalize w1.drew = wd at hk hx ⊢
    refine wpAnyH_take (i := 0) (oi := { dst := some 18, op := Op.move (Operand.tmp 0), type := 26, pos := "ledger.go:94", after := #[], guard := none }) (v := ?vhhd41) rfl (by kernel_rfl) (by kernel_rfl) (by kernel_rfl) (fun _ _ _ h => h) (Or.inl ⟨by rfl, ?yhhd41⟩) hk ?rhhd41
    case yhhd41 => (intro w hSw; (try dsimp only at hSw); go_simp; first | done | with_reducible rfl)
    simp only [Act.put, List.setIfInBounds_toArray, List.set_cons_zero, List.set_cons_succ]
    refine wpAnyH_take (i := 1) (oi := { dst := some 19, op := Op.nilCheck (Operand.tmp 18), type := 0, pos := "ledger.go:94", after := #[{ on := 0, ground := Ground.data }], guard := none }) (v := ?vhhd42) rfl (by kernel_rfl) (by kernel_rfl) (by kernel_rfl) (fun _ _ _ h => h) (Or.inl ⟨by rfl, ?yhhd42⟩) hk ?rhhd42
    case yhhd42 => (intro w hSw; (try dsimp only at hSw); go_simp; first | done | with_reducible rfl)
    simp only [Act.put, List.setIfInBounds_toArray, List.set_cons_zero, List.set_cons_succ]
    refine wpAnyH_take (i := 2) (oi := { dst := some 20, op := Op.fieldAddr 77 (Operand.tmp 19) 1, type := 0, pos := "ledger.go:94", after := #[{ on := 1, ground := Ground.data }], guard := none }) (v := ?vhhd43) rfl (by kernel_rfl) (by kernel_rfl) (by kernel_rfl) (fun _ _ _ h => h) (Or.inl ⟨by rfl, ?yhhd43⟩) hk ?rhhd43
    case yhhd43 => (intro w hSw; (try dsimp only at hSw); go_simp; first | done | with_reducible rfl)
    simp only [Act.put, List.setIfInBounds_toArray, List.set_cons_zero, List.set_cons_succ]
    refine wpAnyH_take (i := 3) (oi := { dst := some 21, op := Op.load 22 (Operand.tmp 20), type := 22, pos := "ledger.go:94", after := #[{ on := 2, ground := Ground.data }], guard := none }) (v := ?vhhd44) rfl (by kernel_rfl) (by kernel_rfl) (by kernel_rfl) (fun _ _ _ h => h) (Or.inl ⟨by rfl, ?yhhd44⟩) hk ?rhhd44
    case yhhd44 => (intro w hSw; have hcw := hSw; clear hSw; go_simp; first | done | with_reducible rfl)
    simp only [Act.put, List.setIfInBounds_toArray, List.set_cons_zero, List.set_cons_succ]
    refine wpAnyH_take (i := 4) (oi := { dst := some 22, op := Op.move (Operand.tmp 6), type := 60, pos := "ledger.go:94", after := #[], guard := none }) (v := ?vhhd45) rfl (by kernel_rfl) (by kernel_rfl) (by kernel_rfl) (fun _ _ _ h => h) (Or.inl ⟨by rfl, ?yhhd45⟩) hk ?rhhd45
    case yhhd45 => (intro w hSw; (try dsimp only at hSw); go_simp; first | done | with_reducible rfl)
    simp only [Act.put, List.setIfInBounds_toArray, List.set_cons_zero, List.set_cons_succ]
    refine wpAnyH_ready (rs := [5]) (by decide +kernel) (by simp) ?_
    refine AllReadyH.cons (o := { dst := some 23, op := Op.call { callee := Callee.value (Operand.func 55), args := #[Operand.tmp 22], argTypes := #[60] }, type := 47, pos := "ledger.go:94", after := #[{ on := 4, ground := Ground.data }], guard := none }) rfl (fun K hK => ?_) AllReadyH.nil
    go_simp
    refine (headof_any a m c L _ hx.dg hx.tab HLT.out).mono ?_
    rintro e w2 ⟨rfl, hb2⟩
    replace hk := (hb2.cell hx.lt).trans hk
    replace hx := hx.step hb2
    clear hb2
    refine hK.out _ _ hk (fun _ => ?_)
    clear hK K
    try simp only [Act.put, List.setIfInBounds_toArray, List.set_cons_zero, List.set_cons_succ]
    refine wpAnyH_ready (rs := [6]) (by decide +kernel) (by simp) ?_
    refine AllReadyH.cons (o := { dst := some 24, op := Op.call { callee := Callee.value (Operand.func 23), args := #[Operand.tmp 21, Operand.tmp 23], argTypes := #[22, 47] }, type := 47, pos := "ledger.go:94", after := #[{ on := 3, ground := Ground.data }, { on := 5, ground := Ground.data }, { on := 5, ground := Ground.chain }], guard := none }) rfl (fun K hK => ?_) AllReadyH.nil
    go_simp
    refine (sign_any (hdD L) ka kn kc KY _ hx.kb HD1.out hx.tab HKN.out).mono ?_
    rintro e w3 ⟨rfl, hb3⟩
    replace hk := (hb3.cell hx.lt).trans hk
    replace hx := hx.step hb3
    clear hb3
    have HTR : Bx (w3.there gr 0 (hdA (sgn KY (hdD L))).size) := ⟨hx.nv.hd_there HS1.out⟩
    have HIR := Bx.mk (hdA_info HS1.out)
    have HOR : Bx ((hdA (sgn KY (hdD L))).all (·.oneCell') = true) := ⟨hdA_one⟩
    have HST : Bx (HdB (w3.setCells gr 0 (hdA (sgn KY (hdD L))).toList) gr (sgn KY (hdD L))) := ⟨hx.nv.hd HS1.out⟩
    have HBS : Bx (Below w.heap.size w (w3.setCells gr 0 (hdA (sgn KY (hdD L))).toList)) := ⟨below_setCells hx.low gr (by rw [HGR.out]; exact Nat.le_refl _) _ _⟩
    refine hK.out _ _ hk (fun _ => ?_)
    clear hK K
    try simp only [Act.put, List.setIfInBounds_toArray, List.set_cons_zero, List.set_cons_succ]
    refine wpAnyH_ready (rs := [7]) (by decide +kernel) (by simp) ?_
    refine AllReadyH.cons (o := { dst := none, op := Op.store 47 (Operand.tmp 4) (Operand.tmp 24), type := 0, pos := "ledger.go:94", after := #[{ on := 6, ground := Ground.data }, { on := 6, ground := Ground.chain }, { on := 0, ground := Ground.phase }, { on := 1, ground := Ground.phase }, { on := 2, ground := Ground.phase }, { on := 3, ground := Ground.phase }, { on := 4, ground := Ground.phase }, { on := 5, ground := Ground.phase }, { on := 6, ground := Ground.phase }], guard := none }) rfl (fun K hK => ?_) AllReadyH.nil
    rw [if_pos (by rfl)]
    refine wp_store_mid 47 (.tmp 4) (.tmp 24) rfl gr 0 (hdA (sgn KY (hdD L))) rfl rfl ?hthhd46 HIR.out HOR.out ?_
    case hthhd46 => exact HTR.out
    replace hk : (w3.setCells gr 0 (hdA (sgn KY (hdD L))).toList).cell? ⟨g, 1, none⟩ = some (.slice ka kn kc) := (World.cell?_of_block (setCells_other HNE.out _ _)).trans hk
    simp only [Act.put]
    refine hK.out _ _ hk (fun _ => ?_)
    clear hK K
    try simp only [Act.put, List.setIfInBounds_toArray, List.set_cons_zero, List.set_cons_succ]
    refine wpAnyH_take (i := 8) (oi := { dst := some 5, op := Op.assign (Operand.const (Value.int IntKind.i64 0)), type := 39, pos := "ledger.go:94", after := #[{ on := 7, ground := Ground.chain }, { on := 0, ground := Ground.phase }, { on := 1, ground := Ground.phase }, { on := 2, ground := Ground.phase }, { on := 3, ground := Ground.phase }, { on := 4, ground := Ground.phase }, { on := 5, ground := Ground.phase }, { on := 6, ground := Ground.phase }, { on := 7, ground := Ground.phase }], guard := none }) (v := ?vhhd47) rfl (by kernel_rfl) (by kernel_rfl) (by kernel_rfl) (fun _ _ _ h => h) (Or.inl ⟨by rfl, ?yhhd47⟩) hk ?rhhd47
    case yhhd47 => (intro w hSw; (try dsimp only at hSw); go_simp; first | done | with_reducible rfl)
    simp only [Act.put, List.setIfInBounds_toArray, List.set_cons_zero, List.set_cons_succ]
    refine wpAnyH_done (by decide +kernel) ?_ _
    go_wp2_with fail
    exact bodyPost_ret (v := .tuple #[.agg (hdA (sgn KY (hdD L))), .int .i64 0]) (results_ch rfl _ _ gr (sgn KY (hdD L)) _ rfl rfl HST.out) rfl ⟨by rw [HF.out], HBS.out⟩
end Go.Proofs.YtbednfacipphhaaDoor
namespace Go.Proofs.YtbednfacipphhaaDoor
open Go.RowKit
set_option linter.unusedVariables false

set_option maxHeartbeats 1000000 in
theorem text21_no (p : Option Addr) (i : Int) (w : World) (h : NoLg w p) :
    Calls Tryd.prog 29 #[.pointer p, .int .i64 i] w fun e w' => e = .returned (.tuple #[.slice none 0 0, .int .i64 1]) ∧ w = w' := by
  have HH := Bx.mk h
  clear h
  go_enter Tryd.func29, Tryd.ntmps29
  go_wp2_with fail
  refine (made21_no p HH.out).mono ?_
  rintro e wz ⟨rfl, hwz⟩
  subst hwz
  go_wp2_with fail
  go_ret2
  exact ⟨rfl, rfl⟩
set_option maxHeartbeats 1000000 in
theorem leaves21_no (p : Option Addr) (n : Int) (w : World) (h : NoLg w p) :
    Calls Tryd.prog 54 #[.pointer p, .int .i64 n] w fun e w' => e = .returned (.tuple #[.slice none 0 0, .int .i64 1]) ∧ w = w' := by
  have HH := Bx.mk h
  clear h
  go_enter Tryd.func54, Tryd.ntmps54
  go_wp2_with fail
  refine (made21_no p HH.out).mono ?_
  rintro e wz ⟨rfl, hwz⟩
  subst hwz
  go_wp2_with fail
  go_ret2
  exact ⟨rfl, rfl⟩
set_option maxHeartbeats 1000000 in
theorem path21_no (p : Option Addr) (i n : Int) (w : World) (h : NoLg w p) :
    Calls Tryd.prog 30 #[.pointer p, .int .i64 i, .int .i64 n] w fun e w' => e = .returned (.tuple #[.slice none 0 0, .int .i64 1]) ∧ w = w' := by
  have HH := Bx.mk h
  clear h
  go_enter Tryd.func30, Tryd.ntmps30
  go_wp2_with fail
  refine (leaves21_no p n _ HH.out).mono ?_
  rintro e wz ⟨rfl, hwz⟩
  subst hwz
  go_wp2_with fail
  go_ret2
  exact ⟨rfl, rfl⟩
set_option maxHeartbeats 1000000 in
theorem growth21_no (p : Option Addr) (i n : Int) (w : World) (h : NoLg w p) :
    Calls Tryd.prog 31 #[.pointer p, .int .i64 i, .int .i64 n] w fun e w' => e = .returned (.tuple #[.slice none 0 0, .int .i64 1]) ∧ w = w' := by
  have HH := Bx.mk h
  clear h
  go_enter Tryd.func31, Tryd.ntmps31
  go_wp2_with fail
  refine (leaves21_no p n _ HH.out).mono ?_
  rintro e wz ⟨rfl, hwz⟩
  subst hwz
  go_wp2_with fail
  go_ret2
  exact ⟨rfl, rfl⟩
set_option maxHeartbeats 1000000 in
theorem texts21_no (p : Option Addr) (w : World) (h : NoLg w p) :
    Calls Tryd.prog 17 #[.pointer p] w fun e w' => e = .returned (.slice none 0 0) ∧ w = w' := by
  have HH := Bx.mk h
  clear h
  go_enter Tryd.func17, Tryd.ntmps17
  go_wp2_with fail
  refine (size21_no p HH.out).mono ?_
  rintro e wz ⟨rfl, hwz⟩
  subst hwz
  go_wp2_with fail
  go_loopw [3, 7] (fun v i wr => v = .slice none 0 0 ∧ i = .int .i64 0 ∧ wr = w) (fun _ _ _ => 0)
  case atStart => exact ⟨rfl, rfl, rfl⟩
  case round =>
    obtain ⟨rfl, rfl, rfl⟩ := hrel
    go_wp2
    go_ret
    exact ⟨rfl, rfl⟩
set_option maxHeartbeats 1000000 in
theorem add21_no (p : Option Addr) (e : En) (a : Option Addr) (n c : Nat) (w : World) (h : NoLg w p) :
    Calls Tryd.prog 14 #[.pointer p, .agg (enA e a n c)] w fun x w' => x = .returned (.int .i64 1) ∧ Below w.heap.size w w' := by
  have hb0 : Below w.heap.size w (w.alloc (.cells (enA e a n c) 35)) := (Below.refl _ _).alloc (Nat.le_refl _) _
  have HH := Bx.mk (h.below hb0)
  have HB0 := Bx.mk hb0
  clear h hb0
  go_enter Tryd.func14, Tryd.ntmps14
  go_upto_region 1 with fail
  generalize w.alloc (.cells (enA e a n c) 35) = wa at HB0 HH ⊢
  go_wp2_with fail
  refine (made21_no p HH.out).mono ?_
  rintro e wz ⟨rfl, hwz⟩
  subst hwz
  go_wp2_with fail
  go_ret
  exact ⟨rfl, HB0.out⟩
set_option maxHeartbeats 4000000 in
set_option maxRecDepth 100000 in
theorem head21_no (p : Option Addr) (n : Int) (w : World) (h : NoLg w p) :
    Calls Tryd.prog 28 #[.pointer p, .int .i64 n] w fun e w' => e = .returned (.tuple #[.agg (hdA hd0), .int .i64 1]) ∧ Below w.heap.size w w' := by
  have hb1 : Below w.heap.size w (w.alloc (.cells (hdA hd0) 47)) := (Below.refl _ _).alloc (Nat.le_refl _) _
  have HV : Bx (NV 47 97 w.heap.size w.heap.size (w.alloc (.cells (hdA hd0) 47))) := ⟨NV.new (Nat.le_refl _) (hdA_size hd0_dg)⟩
  have HH := Bx.mk (h.below hb1)
  have HB := Bx.mk hb1
  have hzv := hd0_run
  obtain ⟨gr, HGR⟩ : ∃ gr, Bx (gr = w.heap.size) := ⟨_, ⟨rfl⟩⟩
  rw [← HGR.out] at HV
  clear hb1 h
  go_enter Tryd.func28, Tryd.ntmps28
  go_upto_region 1 with fail
  rw [← HGR.out]
  generalize w.alloc (.cells (hdA hd0) 47) = w1 at HV HH HB ⊢
  clear hzv
  go_wp2_with fail
  refine (leaves21_no p n _ HH.out).mono ?_
  rintro e wz ⟨rfl, hwz⟩
  subst hwz
  have HTR : Bx (w1.there gr 0 (hdA hd0).size) := ⟨HV.out.hd_there hd0_dg⟩
  have HIR := Bx.mk (hdA_info hd0_dg)
  have HOR : Bx ((hdA hd0).all (·.oneCell') = true) := ⟨hdA_one⟩
  have HST : Bx (HdB (w1.setCells gr 0 (hdA hd0).toList) gr hd0) := ⟨HV.out.hd hd0_dg⟩
  have HBS : Bx (Below w.heap.size w (w1.setCells gr 0 (hdA hd0).toList)) := ⟨below_setCells HB.out gr (by rw [HGR.out]; exact Nat.le_refl _) _ _⟩
  go_wp2_with (first
    | (refine wpList_build_hd0 rfl rfl ?_)
    | (refine wpList_store_mid rfl 47 (.tmp 4) (.tmp 16) rfl gr 0 (hdA hd0) rfl rfl ?hu HIR.out HOR.out ?_; (case hu => exact HTR.out)))
  exact bodyPost_ret (v := .tuple #[.agg (hdA hd0), .int .i64 1]) (results_ch rfl _ _ gr hd0 _ rfl rfl HST.out) rfl ⟨rfl, HBS.out⟩
end Go.Proofs.YtbednfacipphhaaDoor
