/- Check, the program's and the document's. What a log's write answers. What Append answers. Append, walked. Append that comes to a write, walked; and all of it. Logs at rest. No walk. -/
import Derived.Test.YtipakjenggeflaaGreatDoorPkao
import Derived.Deep.CutRange
namespace Go.Proofs.YtipakjenggeflaaGreatDoor
open Go.RowKit
set_option linter.unusedVariables false

set_option maxRecDepth 100000 in
theorem chkF_step (L : List Chg) (k : Nat) (h : k < L.length) : chkFS (L.take k) (L.drop k) = if chk1 L[k] (L.take k) = 0 then chkFS (L.take (k + 1)) (L.drop (k + 1)) else chk1 L[k] (L.take k) := by
  rw [List.drop_eq_getElem_cons h, chkFS, List.take_succ_eq_append_getElem h]
set_option maxRecDepth 100000 in
set_option maxHeartbeats 1000000 in
theorem check_anyS (B : Nat → Prop) (ao : Option Addr) (len cap : Nat) (L : List Chg) (w : World) (h : CT B w ao len cap L) (hks : ∀ c ∈ L, c.key.size ≤ 9223372036854775807) :
    Calls Tryz.prog 161 #[.slice ao len cap] w fun e w' => e = .returned (.int .i64 (chkL L)) ∧ Below w.heap.size w w' := by
  have HL : Bx (CT B w ao len cap L) := ⟨h⟩
  have HKS : Bx (∀ c ∈ L, c.key.size ≤ 9223372036854775807) := ⟨hks⟩
  have hlen : L.length = len := h.len_eq
  have HLEN : Bx (L.length = len) := ⟨hlen⟩
  have hcl := h.le_cap
  have hcm := h.cap_le
  unfold maxLen at hcm
  have HX : Bx (chkL L = if len < 1 ∨ 16 < len then 2 else chkFS [] L) := ⟨by rw [← hlen]; rfl⟩
  generalize chkL L = X at HX ⊢
  clear hlen h hks
  by_cases h0 : len = 0
  · have HX2 : Bx (X = 2) := ⟨by rw [HX.out, if_pos (by omega)]⟩
    subst h0
    clear HX HL HLEN
    go_enter Tryz.func161, Tryz.ntmps161
    go_wp2_with fail
    go_ret
    exact ⟨ret_int HX2.out.symm, Below.refl _ _⟩
  · by_cases h16 : 16 < len
    · have HX2 : Bx (X = 2) := ⟨by rw [HX.out, if_pos (by omega)]⟩
      have g0 : ((len : Int) == 0) = false := by simp; omega
      have g1 : decide ((len : Int) > 16) = true := by simp; omega
      clear HX HL HLEN
      go_enter Tryz.func161, Tryz.ntmps161
      go_wp2_with fail
      go_ret
      exact ⟨ret_int HX2.out.symm, Below.refl _ _⟩
    · have HX2 : Bx (X = chkFS (L.take 0) (L.drop 0)) := ⟨by rw [HX.out, if_neg (by omega)]; rfl⟩
      have g0 : ((len : Int) == 0) = false := by simp; omega
      have g1 : decide ((len : Int) > 16) = false := by simp; omega
      clear HX
      go_enter Tryz.func161, Tryz.ntmps161
      go_wp2_with fail
      go_loopw [16] (fun i wr => ∃ k : Nat, k ≤ len ∧ i = .int .i64 k ∧ Below w.heap.size w wr ∧ Bx (X = chkFS (L.take k) (L.drop k))) (fun i _ => len - (intOf i).toNat)
      case atStart => exact ⟨0, Nat.zero_le _, rfl, Below.refl _ _, HX2⟩
      case round =>
        clear HX2
        obtain ⟨k, hk, rfl, hbw, HN⟩ := hrel
        by_cases hlt : k < len
        · have hkI : (k : Int) < (len : Int) := by omega
          have hkL : k < L.length := by rw [HLEN.out]; exact hlt
          have HST : Bx (X = if chk1 L[k] (L.take k) = 0 then chkFS (L.take (k + 1)) (L.drop (k + 1)) else chk1 L[k] (L.take k)) := ⟨by rw [HN.out, chkF_step L k hkL]⟩
          have hLr := HL.out.below hbw
          obtain ⟨b, off, ai, ni, ci, rfl, hbl, _, h1, h2, h3, hbt, _⟩ := hLr.chg k hlt
          have hkey := HKS.out _ (List.getElem_mem hkL)
          have HTK : Bx (CT B wr (some ⟨b, off, none⟩) k cap (L.take k)) := ⟨hLr.take k (by omega)⟩
          generalize hcc : L[k] = cc at h1 h2 hbt hkey HST
          obtain ⟨kk, dd, vv⟩ := cc
          simp only at h1 h2 hbt hkey
          have HBT : Bx (Bts wr ai ni ci vv) := ⟨hbt⟩
          have HBW : Bx (Below w.heap.size w wr) := ⟨hbw⟩
          have hkc : (k : Int) ≤ (cap : Int) := by omega
          clear hcc hbt hLr hbw HN
          go_wp2_with fail
          have hba : Below wr.heap.size wr (wr.alloc (.cells #[.string kk, .bool dd, .slice ai ni ci] 167)) := (Below.refl _ _).alloc (Nat.le_refl _) _
          have c0 : (wr.alloc (.cells #[.string kk, .bool dd, .slice ai ni ci] 167)).drew.cell? ⟨wr.heap.size, 0, none⟩ = some (.string kk) := cell_of_row _ _ 0 _ _ (0, 0) (heap_alloc_new wr _)
          have c1 : (wr.alloc (.cells #[.string kk, .bool dd, .slice ai ni ci] 167)).drew.cell? ⟨wr.heap.size, 1, none⟩ = some (.bool dd) := cell_of_row _ _ 1 _ _ (0, 0) (heap_alloc_new wr _)
          have c2 : (wr.alloc (.cells #[.string kk, .bool dd, .slice ai ni ci] 167)).drew.cell? ⟨wr.heap.size, 2, none⟩ = some (.slice ai ni ci) := cell_of_row _ _ 2 _ _ (0, 0) (heap_alloc_new wr _)
          obtain ⟨wd, hwd⟩ : ∃ wd, wd = (wr.alloc (.cells #[.string kk, .bool dd, .slice ai ni ci] 167)).drew := ⟨_, rfl⟩
          rw [← hwd] at c0 c1 c2
          have hgl : wr.heap.size < wd.heap.size := by rw [hwd]; simp
          have HB2 : Below w.heap.size w wd ∧ Bts wd ai ni ci vv ∧ CT B wd (some ⟨b, off, none⟩) k cap (L.take k) := by rw [hwd]; exact ⟨(bstep HBW.out hba).drew, (HBT.out.below hba).drewN 1, (HTK.out.below hba).drewN 1⟩
          have hS0 : (wr.alloc (.cells #[.string kk, .bool dd, .slice ai ni ci] 167)).drew.cell? ⟨wr.heap.size, 0, none⟩ = some (.string kk) ∧ (wr.alloc (.cells #[.string kk, .bool dd, .slice ai ni ci] 167)).drew.cell? ⟨wr.heap.size, 1, none⟩ = some (.bool dd) ∧ (wr.alloc (.cells #[.string kk, .bool dd, .slice ai ni ci] 167)).drew.cell? ⟨wr.heap.size, 2, none⟩ = some (.slice ai ni ci) ∧ Below wd.heap.size wd (wr.alloc (.cells #[.string kk, .bool dd, .slice ai ni ci] 167)).drew := by rw [← hwd]; exact ⟨c0, c1, c2, Below.refl _ _⟩
          generalize hgr : wr.heap.size = gr at c0 c1 c2 hgl hS0 ⊢
          have HCC : Bx (∀ W, (W.cell? ⟨gr, 0, none⟩ = some (.string kk) ∧ W.cell? ⟨gr, 1, none⟩ = some (.bool dd) ∧ W.cell? ⟨gr, 2, none⟩ = some (.slice ai ni ci) ∧ Below wd.heap.size wd W) → Calls Tryz.prog 231 #[.agg #[.string kk, .bool dd, .slice ai ni ci], .slice (some ⟨b, off, none⟩) k cap] W fun e w' => e = .returned (.int .i64 (chk1 ⟨kk, dd, vv⟩ (L.take k))) ∧ w'.cell? ⟨gr, 0, none⟩ = some (.string kk) ∧ w'.cell? ⟨gr, 1, none⟩ = some (.bool dd) ∧ w'.cell? ⟨gr, 2, none⟩ = some (.slice ai ni ci) ∧ Below wd.heap.size wd w') := ⟨fun W ⟨_, _, _, hW⟩ => (checkchange_any kk dd vv ai ni ci B (some ⟨b, off, none⟩) k cap (L.take k) W hkey (HB2.2.1.below hW) (HB2.2.2.below hW)).mono fun _ _ ⟨e1, e2⟩ => ⟨e1, ((bstep hW e2).cell (p := ⟨gr, 0, none⟩) hgl).trans c0, ((bstep hW e2).cell (p := ⟨gr, 1, none⟩) hgl).trans c1, ((bstep hW e2).cell (p := ⟨gr, 2, none⟩) hgl).trans c2, bstep hW e2⟩⟩
          have HB3 : Bx (∀ W, Below wd.heap.size wd W → Below w.heap.size w W) := ⟨fun W hW => bstep HB2.1 hW⟩
          generalize chk1 ⟨kk, dd, vv⟩ (L.take k) = Y at HCC HST
          generalize wr.alloc (.cells #[.string kk, .bool dd, .slice ai ni ci] 167) = wa at hS0 ⊢
          clear hgr hba h1 h2 h3 hbl HBT HTK HBW HB2 hwd c0 c1 c2 hgl
          go_region_held3 (fun W => W.cell? ⟨gr, 0, none⟩ = some (.string kk) ∧ W.cell? ⟨gr, 1, none⟩ = some (.bool dd) ∧ W.cell? ⟨gr, 2, none⟩ = some (.slice ai ni ci) ∧ Below wd.heap.size wd W) (first | (exact hS0) | (exact hb6) | (assumption)) (first
            | (go_at_call 231; refine (HCC.out _ (by assumption)).mono ?_; rintro e6 w6 ⟨rfl, hb6⟩))
          rename_i hHeld
          have hbw6 := HB3.out _ hHeld.2.2.2
          clear hHeld HB3 HCC hS0
          by_cases hY : Y = 0
          · have HF : Bx (X = chkFS (L.take (k + 1)) (L.drop (k + 1))) := ⟨by rw [HST.out, if_pos hY]⟩
            have g2 : (Y != 0) = false := by simp [hY]
            clear hY HST
            go_wp2_with fail
            go_roundw
            case rel => exact ⟨k + 1, by omega, by go_num, hbw6, HF⟩
            case measure => simp [intOf]; omega
          · have HF : Bx (X = Y) := ⟨by rw [HST.out, if_neg hY]⟩
            have g2 : (Y != 0) = true := by simp [hY]
            clear hY HST
            go_wp2_with fail
            go_ret
            exact ⟨ret_int HF.out.symm, hbw6⟩
        · have hkI : ¬ (k : Int) < (len : Int) := by omega
          have HX3 : Bx (X = 0) := ⟨by rw [HN.out, List.drop_eq_nil_of_le (by rw [HLEN.out]; omega)]; rfl⟩
          go_wp2_with fail
          go_ret
          exact ⟨ret_int HX3.out.symm, hbw⟩
end Go.Proofs.YtipakjenggeflaaGreatDoor
namespace Go.Proofs.YtipakjenggeflaaGreatDoor
open Go.RowKit
set_option linter.unusedVariables false

/-- the first piece, and a Sync -/
def apT (m : DS) (p : Nat) (b : List Int) : DS × Int := if m.wrE (p : Int) b ≠ 0 then (m.wr (p : Int) b, m.wrE (p : Int) b) else ((m.wr (p : Int) b).sy, (m.wr (p : Int) b).syE)
set_option maxRecDepth 100000 in
theorem apT_err {m : DS} {p : Nat} {b : List Int} (h : m.wrE (p : Int) b ≠ 0) : apT m p b = (m.wr (p : Int) b, m.wrE (p : Int) b) := by unfold apT; rw [if_pos h]
set_option maxRecDepth 100000 in
theorem apT_ok {m : DS} {p : Nat} {b : List Int} (h : m.wrE (p : Int) b = 0) : apT m p b = ((m.wr (p : Int) b).sy, (m.wr (p : Int) b).syE) := by unfold apT; rw [if_neg (fun k => k h)]
set_option maxRecDepth 100000 in
theorem apW_err {s s1 : DS} {p : Nat} {P : List (List Int)} {E : Int} (h : (s1, E) = wrL s (p + 1) (P.drop 1)) (hE : E ≠ 0) : s.apW p P = (s1, E) := by
  unfold DS.apW; rw [← h]; simp only []; rw [if_pos hE]
set_option maxRecDepth 100000 in
theorem apW_sy {s s1 : DS} {p : Nat} {P : List (List Int)} (h : (s1, 0) = wrL s (p + 1) (P.drop 1)) (hm : 1 < P.length) (hE : s1.syE ≠ 0) : s.apW p P = (s1.sy, s1.syE) := by
  unfold DS.apW; rw [← h]; simp only []; rw [if_neg (fun k => k rfl), if_pos hm, if_pos hE]
set_option maxRecDepth 100000 in
theorem apW_more {s s1 : DS} {p : Nat} {P : List (List Int)} (h : (s1, 0) = wrL s (p + 1) (P.drop 1)) (hm : 1 < P.length) (hE : s1.syE = 0) : s.apW p P = apT s1.sy p (P.getD 0 []) := by
  unfold DS.apW apT; rw [← h]; simp only []; rw [if_neg (fun k => k rfl), if_pos hm, if_neg (fun k => k hE)]
set_option maxRecDepth 100000 in
theorem apW_one {s : DS} {p : Nat} {P : List (List Int)} (hm : P.length = 1) : s.apW p P = apT s p (P.getD 0 []) := by
  have h : (s, (0 : Int)) = wrL s (p + 1) (P.drop 1) := by rw [List.drop_of_length_le (by omega)]; rfl
  have hm' : ¬ 1 < P.length := by omega
  unfold DS.apW apT; rw [← h]; simp only []; rw [if_neg (fun k => k rfl), if_neg hm', if_neg (fun k => k rfl)]
set_option maxRecDepth 100000 in
theorem wrL_go {s : DS} {p : Nat} {P : List (List Int)} {j : Nat} (hj : j < P.length) (h : s.wrE (p : Int) (P.getD j []) = 0) : wrL s p (P.drop j) = wrL (s.wr (p : Int) (P.getD j [])) (p + 1) (P.drop (j + 1)) := by
  rw [List.drop_eq_getElem_cons hj, wrL]
  rw [List.getD_eq_getElem?_getD, List.getElem?_eq_getElem hj] at h ⊢
  exact if_pos h
set_option maxRecDepth 100000 in
theorem wrL_er {s : DS} {p : Nat} {P : List (List Int)} {j : Nat} (hj : j < P.length) (h : s.wrE (p : Int) (P.getD j []) ≠ 0) : wrL s p (P.drop j) = (s.wr (p : Int) (P.getD j []), s.wrE (p : Int) (P.getD j [])) := by
  rw [List.drop_eq_getElem_cons hj, wrL]
  rw [List.getD_eq_getElem?_getD, List.getElem?_eq_getElem hj] at h ⊢
  exact if_neg h
set_option maxRecDepth 100000 in
theorem sy_O {s : DS} : s.sy.O.length ≤ s.O.length := by
  unfold DS.sy
  split
  · exact Nat.le_refl _
  · split
    · exact Nat.le_refl _
    · exact Nat.zero_le _
set_option maxRecDepth 100000 in
theorem cell_did {own own' : Nat → Prop} {w w' : World} {k j : Nat} {v : Value} (h : Did own w w' own') (hk : k < w.heap.size) (hno : ¬ own k) (hc : w.cell? ⟨k, j, none⟩ = some v) : w'.cell? ⟨k, j, none⟩ = some v := (World.cell?_of_block (w := w) (h.kept.block k hk hno)).trans hc
set_option maxRecDepth 100000 in
set_option maxHeartbeats 1000000 in
theorem lwrite_one1 (gl g : Nat) (own : Nat → Prop) (s : DS) (next b off m cap : Nat) (P : List (List Int)) (w : World) (hD : Dsk w g own s) (hc0 : w.cell? ⟨gl, 0, none⟩ = some (.pointer (some ⟨g, 0, none⟩))) (hc2 : w.cell? ⟨gl, 2, none⟩ = some (.int .i64 (next : Int))) (hgl : ¬ own gl)
    (hT : TxF own w (some ⟨b, off, none⟩) m cap P) (hm : m = 1) (hcap :  cap = 1) (hn : next ≤ 4096) (hO : s.O.length ≤ 900000) :
    Calls Tryz.prog 288 #[.pointer (some ⟨gl, 0, none⟩), .slice (some ⟨b, off, none⟩) m cap] w fun e w' => e = .returned (.int .i64 (s.apW next P).2) ∧ ∃ own', Dsk w' g own' (s.apW next P).1 ∧ Did own w w' own' := by
  subst hm
  have hgs : gl < w.heap.size := World.block_lt_of_cell? w _ hc0
  have HCL : Bx (∀ W own2, Did own w W own2 → W.cell? ⟨gl, 0, none⟩ = some (.pointer (some ⟨g, 0, none⟩)) ∧ W.cell? ⟨gl, 2, none⟩ = some (.int .i64 (next : Int))) := ⟨fun W own2 hd => ⟨cell_did hd hgs hgl hc0, cell_did hd hgs hgl hc2⟩⟩
  have HTX : Bx (TxF own w (some ⟨b, off, none⟩) 1 cap P) := ⟨hT⟩
  have HD0 : Bx (Dsk w g own s) := ⟨hD⟩
  have HPL : Bx (P.length = 1) := ⟨hT.len_eq⟩
  have HO0 : Bx (s.O.length ≤ 900000) := ⟨hO⟩
  have hcc := hT.le_cap
  have hcm := hT.cap_le
  unfold maxLen at hcm
  clear hD hT hO hc0 hc2 hgl hgs
  go_enter Tryz.func288, Tryz.ntmps288
  go_wp2
  go_loopw [13] (fun i wr => i = .int .i64 0 ∧ wr = w) (fun _ _ => 0)
  case atStart => exact ⟨rfl, rfl⟩
  case round =>
    obtain ⟨rfl, hwl⟩ := hrel
    obtain ⟨wl, rfl⟩ : ∃ wl, wl = wr := ⟨_, rfl⟩
    have HD1 : Bx (Dsk wl g own s) := ⟨by rw [hwl]; exact HD0.out⟩
    have HDI : Bx (Did own w wl own) := ⟨by rw [hwl]; exact Did.same (Kept.refl _ _)⟩
    have HAP : Bx (s.apW next P = apT s next (P.getD 0 [])) := ⟨apW_one HPL.out⟩
    have HOk : Bx (s.O.length ≤ 900001) := ⟨by have := HO0.out; omega⟩
    clear hwl HD0
    obtain ⟨s1, hs1⟩ : ∃ s1, s1 = s := ⟨_, rfl⟩
    obtain ⟨own1, ho1⟩ : ∃ own1, own1 = own := ⟨_, rfl⟩
    replace HAP : Bx (s.apW next P = apT s1 next (P.getD 0 [])) := ⟨by rw [hs1]; exact HAP.out⟩
    replace HD1 : Bx (Dsk wl g own1 s1) := ⟨by rw [hs1, ho1]; exact HD1.out⟩
    replace HDI : Bx (Did own w wl own1) := ⟨by rw [ho1]; exact HDI.out⟩
    replace HOk : Bx (s1.O.length ≤ 900001) := ⟨by rw [hs1]; have := HO0.out; omega⟩
    clear hs1 ho1 HO0
    -- the first piece; behind it the Sync
    obtain ⟨b9, off9, hb9, _, _, hc9⟩ := (HTX.out.did HDI.out).spot (by omega)
    obtain ⟨rfl, rfl⟩ : b = b9 ∧ off = off9 := by cases hb9; exact ⟨rfl, rfl⟩
    obtain ⟨a0, l0, c0, hc0, hbt0, hf0⟩ := hc9 0 (by omega)
    rw [Nat.add_zero] at hc0
    have HCL2 : Bx (∀ W own2, Did own w W own2 → W.cell? ⟨gl, 0, none⟩ = some (.pointer (some ⟨g, 0, none⟩)) ∧ W.cell? ⟨gl, 2, none⟩ = some (.int .i64 (next : Int)) ∧ W.cell? ⟨b, off, none⟩ = some (.slice a0 l0 c0)) := ⟨fun W own2 hd => ⟨(HCL.out W own2 hd).1, (HCL.out W own2 hd).2, by
      obtain ⟨b8, off8, hb8, hlt8, hnb8, hc8⟩ := HTX.out.spot (by omega)
      obtain ⟨rfl, rfl⟩ : b = b8 ∧ off = off8 := by cases hb8; exact ⟨rfl, rfl⟩
      obtain ⟨a1, l1, c1, hc1, _, _⟩ := hc8 0 (by omega)
      rw [Nat.add_zero] at hc1
      have h1 := cell_did HDI.out hlt8 hnb8 hc1
      rw [hc0] at h1
      rw [h1]
      exact cell_did hd hlt8 hnb8 hc1⟩⟩
    generalize P.getD 0 [] = y at hbt0 HAP
    have hk : wl.drew.cell? ⟨gl, 0, none⟩ = some (.pointer (some ⟨g, 0, none⟩)) ∧ wl.drew.cell? ⟨gl, 2, none⟩ = some (.int .i64 (next : Int)) ∧ wl.drew.cell? ⟨b, off, none⟩ = some (.slice a0 l0 c0) := ⟨(HCL.out wl own1 HDI.out).1, (HCL.out wl own1 HDI.out).2, hc0⟩
    have HDk : Bx (Dsk wl.drew g own1 s1) := ⟨HD1.out.drewN 1⟩
    have HBk : Bx (Bts wl.drew a0 l0 c0 y ∧ (0 < l0 → ∀ p, a0 = some p → ¬ own1 p.block)) := ⟨hbt0.drewN 1, hf0⟩
    replace HDI : Bx (Did own w wl.drew own1) := ⟨HDI.out.trans (Did.same ((Kept.refl own1 wl).drewN 1))⟩
    clear hc0 hc9 hbt0 hf0 hb9 HD1
    go_wp2_with fail
    refine wp_region_held_drew (S := fun W => W.cell? ⟨gl, 0, none⟩ = some (.pointer (some ⟨g, 0, none⟩)) ∧ W.cell? ⟨gl, 2, none⟩ = some (.int .i64 (next : Int)) ∧ W.cell? ⟨b, off, none⟩ = some (.slice a0 l0 c0)) (by kernel_rfl) hk (fun _ => ?_)
    generalize wl.drew = wd at hk HDk HBk HDI ⊢
    refine wpAnyH_take (i := 0) (oi := ⟨some 46, .move (.tmp 0), 126, "wal.go:147", #[], none⟩) (v := ?vlwr121) rfl (by kernel_rfl) (by kernel_rfl) (by kernel_rfl) (fun _ _ _ h => h) (Or.inl ⟨by rfl, ?ylwr121⟩) hk ?rlwr121
    case ylwr121 => (intro w hSw; (try dsimp only at hSw); go_simp; first | done | with_reducible rfl)
    simp only [Act.put, List.setIfInBounds_toArray, List.set_cons_zero, List.set_cons_succ]
    refine wpAnyH_take (i := 1) (oi := ⟨some 47, .nilCheck (.tmp 46), 0, "wal.go:147", #[⟨0, .data⟩], none⟩) (v := ?vlwr122) rfl (by kernel_rfl) (by kernel_rfl) (by kernel_rfl) (fun _ _ _ h => h) (Or.inl ⟨by rfl, ?ylwr122⟩) hk ?rlwr122
    case ylwr122 => (intro w hSw; (try dsimp only at hSw); go_simp; first | done | with_reducible rfl)
    simp only [Act.put, List.setIfInBounds_toArray, List.set_cons_zero, List.set_cons_succ]
    refine wpAnyH_take (i := 2) (oi := ⟨some 48, .fieldAddr 207 (.tmp 47) 0, 0, "wal.go:147", #[⟨1, .data⟩], none⟩) (v := ?vlwr123) rfl (by kernel_rfl) (by kernel_rfl) (by kernel_rfl) (fun _ _ _ h => h) (Or.inl ⟨by rfl, ?ylwr123⟩) hk ?rlwr123
    case ylwr123 => (intro w hSw; (try dsimp only at hSw); go_simp; first | done | with_reducible rfl)
    simp only [Act.put, List.setIfInBounds_toArray, List.set_cons_zero, List.set_cons_succ]
    refine wpAnyH_take (i := 3) (oi := ⟨some 49, .load 27 (.tmp 48), 27, "wal.go:147", #[⟨2, .data⟩], none⟩) (v := ?vlwr124) rfl (by kernel_rfl) (by kernel_rfl) (by kernel_rfl) (fun _ _ _ h => h) (Or.inl ⟨by rfl, ?ylwr124⟩) hk ?rlwr124
    case ylwr124 => (intro w hSw; have hcw := hSw.1; clear hSw; go_simp; first | done | with_reducible rfl)
    simp only [Act.put, List.setIfInBounds_toArray, List.set_cons_zero, List.set_cons_succ]
    refine wpAnyH_take (i := 4) (oi := ⟨some 50, .move (.tmp 0), 126, "wal.go:147", #[], none⟩) (v := ?vlwr125) rfl (by kernel_rfl) (by kernel_rfl) (by kernel_rfl) (fun _ _ _ h => h) (Or.inl ⟨by rfl, ?ylwr125⟩) hk ?rlwr125
    case ylwr125 => (intro w hSw; (try dsimp only at hSw); go_simp; first | done | with_reducible rfl)
    simp only [Act.put, List.setIfInBounds_toArray, List.set_cons_zero, List.set_cons_succ]
    refine wpAnyH_take (i := 5) (oi := ⟨some 51, .nilCheck (.tmp 50), 0, "wal.go:147", #[⟨4, .data⟩], none⟩) (v := ?vlwr126) rfl (by kernel_rfl) (by kernel_rfl) (by kernel_rfl) (fun _ _ _ h => h) (Or.inl ⟨by rfl, ?ylwr126⟩) hk ?rlwr126
    case ylwr126 => (intro w hSw; (try dsimp only at hSw); go_simp; first | done | with_reducible rfl)
    simp only [Act.put, List.setIfInBounds_toArray, List.set_cons_zero, List.set_cons_succ]
    refine wpAnyH_take (i := 6) (oi := ⟨some 52, .fieldAddr 207 (.tmp 51) 2, 0, "wal.go:147", #[⟨5, .data⟩], none⟩) (v := ?vlwr127) rfl (by kernel_rfl) (by kernel_rfl) (by kernel_rfl) (fun _ _ _ h => h) (Or.inl ⟨by rfl, ?ylwr127⟩) hk ?rlwr127
    case ylwr127 => (intro w hSw; (try dsimp only at hSw); go_simp; first | done | with_reducible rfl)
    simp only [Act.put, List.setIfInBounds_toArray, List.set_cons_zero, List.set_cons_succ]
    refine wpAnyH_take (i := 7) (oi := ⟨some 53, .load 3 (.tmp 52), 3, "wal.go:147", #[⟨6, .data⟩], none⟩) (v := ?vlwr128) rfl (by kernel_rfl) (by kernel_rfl) (by kernel_rfl) (fun _ _ _ h => h) (Or.inl ⟨by rfl, ?ylwr128⟩) hk ?rlwr128
    case ylwr128 => (intro w hSw; have hcw := hSw.2.1; clear hSw; go_simp; first | done | with_reducible rfl)
    simp only [Act.put, List.setIfInBounds_toArray, List.set_cons_zero, List.set_cons_succ]
    refine wpAnyH_take (i := 8) (oi := ⟨some 54, .move (.tmp 1), 60, "wal.go:147", #[], none⟩) (v := ?vlwr129) rfl (by kernel_rfl) (by kernel_rfl) (by kernel_rfl) (fun _ _ _ h => h) (Or.inl ⟨by rfl, ?ylwr129⟩) hk ?rlwr129
    case ylwr129 => (intro w hSw; (try dsimp only at hSw); go_simp; first | done | with_reducible rfl)
    simp only [Act.put, List.setIfInBounds_toArray, List.set_cons_zero, List.set_cons_succ]
    refine wpAnyH_take (i := 9) (oi := ⟨some 55, .indexAddr 60 (.tmp 54) (.const (Value.int IntKind.i64 0)), 0, "wal.go:147", #[⟨8, .data⟩], none⟩) (v := ?vlwr1210) rfl (by kernel_rfl) (by kernel_rfl) (by kernel_rfl) (fun _ _ _ h => h) (Or.inl ⟨by rfl, ?ylwr1210⟩) hk ?rlwr1210
    case ylwr1210 => (intro w hSw; (try dsimp only at hSw); go_simp; first | done | with_reducible rfl)
    simp only [Act.put, List.setIfInBounds_toArray, List.set_cons_zero, List.set_cons_succ]
    refine wpAnyH_take (i := 10) (oi := ⟨some 56, .load 34 (.tmp 55), 34, "wal.go:147", #[⟨9, .data⟩], none⟩) (v := ?vlwr1211) rfl (by kernel_rfl) (by kernel_rfl) (by kernel_rfl) (fun _ _ _ h => h) (Or.inl ⟨by rfl, ?ylwr1211⟩) hk ?rlwr1211
    case ylwr1211 => (intro w hSw; have hcw := hSw.2.2; clear hSw; go_simp; first | done | with_reducible rfl)
    simp only [Act.put, List.setIfInBounds_toArray, List.set_cons_zero, List.set_cons_succ]
    refine wpAnyH_ready (rs := [11]) (by decide +kernel) (by simp) ?_
    refine AllReadyH.cons (o := ⟨some 57, .call { callee := .value (.func 228), args := #[.tmp 49, .tmp 53, .tmp 56], argTypes := #[27, 3, 34] }, 28, "wal.go:147", #[⟨3, .data⟩, ⟨7, .data⟩, ⟨10, .data⟩], none⟩) rfl (fun K hK => ?_) AllReadyH.nil
    go_simp
    refine (write_any g own1 s1 _ a0 l0 c0 y _ HDk.out HBk.out.1 HBk.out.2 (by have := HOk.out; omega)).mono ?_
    rintro e1 w8 ⟨rfl, own3, hD3, hdid3⟩
    replace hk : w8.cell? ⟨gl, 0, none⟩ = some (.pointer (some ⟨g, 0, none⟩)) ∧ w8.cell? ⟨gl, 2, none⟩ = some (.int .i64 (next : Int)) ∧ w8.cell? ⟨b, off, none⟩ = some (.slice a0 l0 c0) := HCL2.out w8 own3 (HDI.out.trans hdid3)
    have HD3 : Bx _ := ⟨hD3⟩
    have HDI3 : Bx _ := ⟨HDI.out.trans hdid3⟩
    clear hD3 hdid3
    refine hK.out _ _ hk (fun _ => ?_)
    clear hK K
    try simp only [Act.put, List.setIfInBounds_toArray, List.set_cons_zero, List.set_cons_succ]
    refine wpAnyH_take (i := 12) (oi := ⟨some 9, .assign (.tmp 57), 28, "wal.go:147", #[⟨11, .data⟩, ⟨11, .chain⟩, ⟨0, .phase⟩, ⟨1, .phase⟩, ⟨2, .phase⟩, ⟨3, .phase⟩, ⟨4, .phase⟩, ⟨5, .phase⟩, ⟨6, .phase⟩, ⟨7, .phase⟩, ⟨8, .phase⟩, ⟨9, .phase⟩, ⟨10, .phase⟩, ⟨11, .phase⟩], none⟩) (v := ?vlwr1212) rfl (by kernel_rfl) (by kernel_rfl) (by kernel_rfl) (fun _ _ _ h => h) (Or.inl ⟨by rfl, ?ylwr1212⟩) hk ?rlwr1212
    case ylwr1212 => (intro w hSw; (try dsimp only at hSw); go_simp; first | done | with_reducible rfl)
    simp only [Act.put, List.setIfInBounds_toArray, List.set_cons_zero, List.set_cons_succ]
    refine wpAnyH_done (by decide +kernel) ?_ _
    clear HDk HBk HDI
    by_cases he : s1.wrE (next : Int) y = 0
    · have HA : Bx (s.apW next P = ((s1.wr (next : Int) y).sy, (s1.wr (next : Int) y).syE)) := ⟨by rw [HAP.out]; exact apT_ok he⟩
      rw [he]
      have HO3 : Bx ((s1.wr (next : Int) y).O.length ≤ 1000000) := ⟨by have := wr_O (s := s1) (next : Int) y; have := HOk.out; omega⟩
      clear he HAP
      generalize s1.wr (next : Int) y = s3 at HA HD3 HO3
      obtain ⟨k1, k2, k3⟩ := hk
      go_wp2_with fail
      refine (sync_any g own3 s3 _ HD3.out HO3.out).mono ?_
      rintro e w9 ⟨rfl, hD9, hk9⟩
      have HD9 : Bx _ := ⟨hD9⟩
      have HDI9 : Bx _ := ⟨HDI3.out.trans (Did.same hk9)⟩
      clear hD9 hk9 k1 k2 k3
      go_wp2
      go_ret
      exact ⟨by rw [HA.out]; rfl, own3, by rw [HA.out]; exact HD9.out, HDI9.out⟩
    · have HA : Bx (s.apW next P = (s1.wr (next : Int) y, s1.wrE (next : Int) y)) := ⟨by rw [HAP.out]; exact apT_err he⟩
      have heb : (s1.wrE (next : Int) y != 0) = true := by simpa using he
      clear he HAP hk
      generalize s1.wrE (next : Int) y = E at HA heb ⊢
      go_wp2
      go_ret
      exact ⟨by rw [HA.out]; rfl, own3, by rw [HA.out]; exact HD3.out, HDI3.out⟩
set_option maxRecDepth 100000 in
set_option maxHeartbeats 1000000 in
theorem lwrite_one2 (gl g : Nat) (own : Nat → Prop) (s : DS) (next b off m cap : Nat) (P : List (List Int)) (w : World) (hD : Dsk w g own s) (hc0 : w.cell? ⟨gl, 0, none⟩ = some (.pointer (some ⟨g, 0, none⟩))) (hc2 : w.cell? ⟨gl, 2, none⟩ = some (.int .i64 (next : Int))) (hgl : ¬ own gl)
    (hT : TxF own w (some ⟨b, off, none⟩) m cap P) (hm : m = 1) (hcap : ¬ cap = 1) (hn : next ≤ 4096) (hO : s.O.length ≤ 900000) :
    Calls Tryz.prog 288 #[.pointer (some ⟨gl, 0, none⟩), .slice (some ⟨b, off, none⟩) m cap] w fun e w' => e = .returned (.int .i64 (s.apW next P).2) ∧ ∃ own', Dsk w' g own' (s.apW next P).1 ∧ Did own w w' own' := by
  subst hm
  have hgs : gl < w.heap.size := World.block_lt_of_cell? w _ hc0
  have HCL : Bx (∀ W own2, Did own w W own2 → W.cell? ⟨gl, 0, none⟩ = some (.pointer (some ⟨g, 0, none⟩)) ∧ W.cell? ⟨gl, 2, none⟩ = some (.int .i64 (next : Int))) := ⟨fun W own2 hd => ⟨cell_did hd hgs hgl hc0, cell_did hd hgs hgl hc2⟩⟩
  have HTX : Bx (TxF own w (some ⟨b, off, none⟩) 1 cap P) := ⟨hT⟩
  have HD0 : Bx (Dsk w g own s) := ⟨hD⟩
  have HPL : Bx (P.length = 1) := ⟨hT.len_eq⟩
  have HO0 : Bx (s.O.length ≤ 900000) := ⟨hO⟩
  have hcc := hT.le_cap
  have hcm := hT.cap_le
  unfold maxLen at hcm
  clear hD hT hO hc0 hc2 hgl hgs
  go_enter Tryz.func288, Tryz.ntmps288
  go_wp2
  go_loopw [13] (fun i wr => i = .int .i64 0 ∧ wr = w) (fun _ _ => 0)
  case atStart => exact ⟨rfl, rfl⟩
  case round =>
    obtain ⟨rfl, hwl⟩ := hrel
    obtain ⟨wl, rfl⟩ : ∃ wl, wl = wr := ⟨_, rfl⟩
    have HD1 : Bx (Dsk wl g own s) := ⟨by rw [hwl]; exact HD0.out⟩
    have HDI : Bx (Did own w wl own) := ⟨by rw [hwl]; exact Did.same (Kept.refl _ _)⟩
    have HAP : Bx (s.apW next P = apT s next (P.getD 0 [])) := ⟨apW_one HPL.out⟩
    have HOk : Bx (s.O.length ≤ 900001) := ⟨by have := HO0.out; omega⟩
    clear hwl HD0
    obtain ⟨s1, hs1⟩ : ∃ s1, s1 = s := ⟨_, rfl⟩
    obtain ⟨own1, ho1⟩ : ∃ own1, own1 = own := ⟨_, rfl⟩
    replace HAP : Bx (s.apW next P = apT s1 next (P.getD 0 [])) := ⟨by rw [hs1]; exact HAP.out⟩
    replace HD1 : Bx (Dsk wl g own1 s1) := ⟨by rw [hs1, ho1]; exact HD1.out⟩
    replace HDI : Bx (Did own w wl own1) := ⟨by rw [ho1]; exact HDI.out⟩
    replace HOk : Bx (s1.O.length ≤ 900001) := ⟨by rw [hs1]; have := HO0.out; omega⟩
    clear hs1 ho1 HO0
    -- the first piece; behind it the Sync
    obtain ⟨b9, off9, hb9, _, _, hc9⟩ := (HTX.out.did HDI.out).spot (by omega)
    obtain ⟨rfl, rfl⟩ : b = b9 ∧ off = off9 := by cases hb9; exact ⟨rfl, rfl⟩
    obtain ⟨a0, l0, c0, hc0, hbt0, hf0⟩ := hc9 0 (by omega)
    rw [Nat.add_zero] at hc0
    have HCL2 : Bx (∀ W own2, Did own w W own2 → W.cell? ⟨gl, 0, none⟩ = some (.pointer (some ⟨g, 0, none⟩)) ∧ W.cell? ⟨gl, 2, none⟩ = some (.int .i64 (next : Int)) ∧ W.cell? ⟨b, off, none⟩ = some (.slice a0 l0 c0)) := ⟨fun W own2 hd => ⟨(HCL.out W own2 hd).1, (HCL.out W own2 hd).2, by
      obtain ⟨b8, off8, hb8, hlt8, hnb8, hc8⟩ := HTX.out.spot (by omega)
      obtain ⟨rfl, rfl⟩ : b = b8 ∧ off = off8 := by cases hb8; exact ⟨rfl, rfl⟩
      obtain ⟨a1, l1, c1, hc1, _, _⟩ := hc8 0 (by omega)
      rw [Nat.add_zero] at hc1
      have h1 := cell_did HDI.out hlt8 hnb8 hc1
      rw [hc0] at h1
      rw [h1]
      exact cell_did hd hlt8 hnb8 hc1⟩⟩
    generalize P.getD 0 [] = y at hbt0 HAP
    have hk : wl.drew.cell? ⟨gl, 0, none⟩ = some (.pointer (some ⟨g, 0, none⟩)) ∧ wl.drew.cell? ⟨gl, 2, none⟩ = some (.int .i64 (next : Int)) ∧ wl.drew.cell? ⟨b, off, none⟩ = some (.slice a0 l0 c0) := ⟨(HCL.out wl own1 HDI.out).1, (HCL.out wl own1 HDI.out).2, hc0⟩
    have HDk : Bx (Dsk wl.drew g own1 s1) := ⟨HD1.out.drewN 1⟩
    have HBk : Bx (Bts wl.drew a0 l0 c0 y ∧ (0 < l0 → ∀ p, a0 = some p → ¬ own1 p.block)) := ⟨hbt0.drewN 1, hf0⟩
    replace HDI : Bx (Did own w wl.drew own1) := ⟨HDI.out.trans (Did.same ((Kept.refl own1 wl).drewN 1))⟩
    clear hc0 hc9 hbt0 hf0 hb9 HD1
    go_wp2_with fail
    refine wp_region_held_drew (S := fun W => W.cell? ⟨gl, 0, none⟩ = some (.pointer (some ⟨g, 0, none⟩)) ∧ W.cell? ⟨gl, 2, none⟩ = some (.int .i64 (next : Int)) ∧ W.cell? ⟨b, off, none⟩ = some (.slice a0 l0 c0)) (by kernel_rfl) hk (fun _ => ?_)
    generalize wl.drew = wd at hk HDk HBk HDI ⊢
    refine wpAnyH_take (i := 0) (oi := ⟨some 46, .move (.tmp 0), 126, "wal.go:147", #[], none⟩) (v := ?vlwr121) rfl (by kernel_rfl) (by kernel_rfl) (by kernel_rfl) (fun _ _ _ h => h) (Or.inl ⟨by rfl, ?ylwr121⟩) hk ?rlwr121
    case ylwr121 => (intro w hSw; (try dsimp only at hSw); go_simp; first | done | with_reducible rfl)
    simp only [Act.put, List.setIfInBounds_toArray, List.set_cons_zero, List.set_cons_succ]
    refine wpAnyH_take (i := 1) (oi := ⟨some 47, .nilCheck (.tmp 46), 0, "wal.go:147", #[⟨0, .data⟩], none⟩) (v := ?vlwr122) rfl (by kernel_rfl) (by kernel_rfl) (by kernel_rfl) (fun _ _ _ h => h) (Or.inl ⟨by rfl, ?ylwr122⟩) hk ?rlwr122
    case ylwr122 => (intro w hSw; (try dsimp only at hSw); go_simp; first | done | with_reducible rfl)
    simp only [Act.put, List.setIfInBounds_toArray, List.set_cons_zero, List.set_cons_succ]
    refine wpAnyH_take (i := 2) (oi := ⟨some 48, .fieldAddr 207 (.tmp 47) 0, 0, "wal.go:147", #[⟨1, .data⟩], none⟩) (v := ?vlwr123) rfl (by kernel_rfl) (by kernel_rfl) (by kernel_rfl) (fun _ _ _ h => h) (Or.inl ⟨by rfl, ?ylwr123⟩) hk ?rlwr123
    case ylwr123 => (intro w hSw; (try dsimp only at hSw); go_simp; first | done | with_reducible rfl)
    simp only [Act.put, List.setIfInBounds_toArray, List.set_cons_zero, List.set_cons_succ]
    refine wpAnyH_take (i := 3) (oi := ⟨some 49, .load 27 (.tmp 48), 27, "wal.go:147", #[⟨2, .data⟩], none⟩) (v := ?vlwr124) rfl (by kernel_rfl) (by kernel_rfl) (by kernel_rfl) (fun _ _ _ h => h) (Or.inl ⟨by rfl, ?ylwr124⟩) hk ?rlwr124
    case ylwr124 => (intro w hSw; have hcw := hSw.1; clear hSw; go_simp; first | done | with_reducible rfl)
    simp only [Act.put, List.setIfInBounds_toArray, List.set_cons_zero, List.set_cons_succ]
    refine wpAnyH_take (i := 4) (oi := ⟨some 50, .move (.tmp 0), 126, "wal.go:147", #[], none⟩) (v := ?vlwr125) rfl (by kernel_rfl) (by kernel_rfl) (by kernel_rfl) (fun _ _ _ h => h) (Or.inl ⟨by rfl, ?ylwr125⟩) hk ?rlwr125
    case ylwr125 => (intro w hSw; (try dsimp only at hSw); go_simp; first | done | with_reducible rfl)
    simp only [Act.put, List.setIfInBounds_toArray, List.set_cons_zero, List.set_cons_succ]
    refine wpAnyH_take (i := 5) (oi := ⟨some 51, .nilCheck (.tmp 50), 0, "wal.go:147", #[⟨4, .data⟩], none⟩) (v := ?vlwr126) rfl (by kernel_rfl) (by kernel_rfl) (by kernel_rfl) (fun _ _ _ h => h) (Or.inl ⟨by rfl, ?ylwr126⟩) hk ?rlwr126
    case ylwr126 => (intro w hSw; (try dsimp only at hSw); go_simp; first | done | with_reducible rfl)
    simp only [Act.put, List.setIfInBounds_toArray, List.set_cons_zero, List.set_cons_succ]
    refine wpAnyH_take (i := 6) (oi := ⟨some 52, .fieldAddr 207 (.tmp 51) 2, 0, "wal.go:147", #[⟨5, .data⟩], none⟩) (v := ?vlwr127) rfl (by kernel_rfl) (by kernel_rfl) (by kernel_rfl) (fun _ _ _ h => h) (Or.inl ⟨by rfl, ?ylwr127⟩) hk ?rlwr127
    case ylwr127 => (intro w hSw; (try dsimp only at hSw); go_simp; first | done | with_reducible rfl)
    simp only [Act.put, List.setIfInBounds_toArray, List.set_cons_zero, List.set_cons_succ]
    refine wpAnyH_take (i := 7) (oi := ⟨some 53, .load 3 (.tmp 52), 3, "wal.go:147", #[⟨6, .data⟩], none⟩) (v := ?vlwr128) rfl (by kernel_rfl) (by kernel_rfl) (by kernel_rfl) (fun _ _ _ h => h) (Or.inl ⟨by rfl, ?ylwr128⟩) hk ?rlwr128
    case ylwr128 => (intro w hSw; have hcw := hSw.2.1; clear hSw; go_simp; first | done | with_reducible rfl)
    simp only [Act.put, List.setIfInBounds_toArray, List.set_cons_zero, List.set_cons_succ]
    refine wpAnyH_take (i := 8) (oi := ⟨some 54, .move (.tmp 1), 60, "wal.go:147", #[], none⟩) (v := ?vlwr129) rfl (by kernel_rfl) (by kernel_rfl) (by kernel_rfl) (fun _ _ _ h => h) (Or.inl ⟨by rfl, ?ylwr129⟩) hk ?rlwr129
    case ylwr129 => (intro w hSw; (try dsimp only at hSw); go_simp; first | done | with_reducible rfl)
    simp only [Act.put, List.setIfInBounds_toArray, List.set_cons_zero, List.set_cons_succ]
    refine wpAnyH_take (i := 9) (oi := ⟨some 55, .indexAddr 60 (.tmp 54) (.const (Value.int IntKind.i64 0)), 0, "wal.go:147", #[⟨8, .data⟩], none⟩) (v := ?vlwr1210) rfl (by kernel_rfl) (by kernel_rfl) (by kernel_rfl) (fun _ _ _ h => h) (Or.inl ⟨by rfl, ?ylwr1210⟩) hk ?rlwr1210
    case ylwr1210 => (intro w hSw; (try dsimp only at hSw); go_simp; first | done | with_reducible rfl)
    simp only [Act.put, List.setIfInBounds_toArray, List.set_cons_zero, List.set_cons_succ]
    refine wpAnyH_take (i := 10) (oi := ⟨some 56, .load 34 (.tmp 55), 34, "wal.go:147", #[⟨9, .data⟩], none⟩) (v := ?vlwr1211) rfl (by kernel_rfl) (by kernel_rfl) (by kernel_rfl) (fun _ _ _ h => h) (Or.inl ⟨by rfl, ?ylwr1211⟩) hk ?rlwr1211
    case ylwr1211 => (intro w hSw; have hcw := hSw.2.2; clear hSw; go_simp; first | done | with_reducible rfl)
    simp only [Act.put, List.setIfInBounds_toArray, List.set_cons_zero, List.set_cons_succ]
    refine wpAnyH_ready (rs := [11]) (by decide +kernel) (by simp) ?_
    refine AllReadyH.cons (o := ⟨some 57, .call { callee := .value (.func 228), args := #[.tmp 49, .tmp 53, .tmp 56], argTypes := #[27, 3, 34] }, 28, "wal.go:147", #[⟨3, .data⟩, ⟨7, .data⟩, ⟨10, .data⟩], none⟩) rfl (fun K hK => ?_) AllReadyH.nil
    go_simp
    refine (write_any g own1 s1 _ a0 l0 c0 y _ HDk.out HBk.out.1 HBk.out.2 (by have := HOk.out; omega)).mono ?_
    rintro e1 w8 ⟨rfl, own3, hD3, hdid3⟩
    replace hk : w8.cell? ⟨gl, 0, none⟩ = some (.pointer (some ⟨g, 0, none⟩)) ∧ w8.cell? ⟨gl, 2, none⟩ = some (.int .i64 (next : Int)) ∧ w8.cell? ⟨b, off, none⟩ = some (.slice a0 l0 c0) := HCL2.out w8 own3 (HDI.out.trans hdid3)
    have HD3 : Bx _ := ⟨hD3⟩
    have HDI3 : Bx _ := ⟨HDI.out.trans hdid3⟩
    clear hD3 hdid3
    refine hK.out _ _ hk (fun _ => ?_)
    clear hK K
    try simp only [Act.put, List.setIfInBounds_toArray, List.set_cons_zero, List.set_cons_succ]
    refine wpAnyH_take (i := 12) (oi := ⟨some 9, .assign (.tmp 57), 28, "wal.go:147", #[⟨11, .data⟩, ⟨11, .chain⟩, ⟨0, .phase⟩, ⟨1, .phase⟩, ⟨2, .phase⟩, ⟨3, .phase⟩, ⟨4, .phase⟩, ⟨5, .phase⟩, ⟨6, .phase⟩, ⟨7, .phase⟩, ⟨8, .phase⟩, ⟨9, .phase⟩, ⟨10, .phase⟩, ⟨11, .phase⟩], none⟩) (v := ?vlwr1212) rfl (by kernel_rfl) (by kernel_rfl) (by kernel_rfl) (fun _ _ _ h => h) (Or.inl ⟨by rfl, ?ylwr1212⟩) hk ?rlwr1212
    case ylwr1212 => (intro w hSw; (try dsimp only at hSw); go_simp; first | done | with_reducible rfl)
    simp only [Act.put, List.setIfInBounds_toArray, List.set_cons_zero, List.set_cons_succ]
    refine wpAnyH_done (by decide +kernel) ?_ _
    clear HDk HBk HDI
    by_cases he : s1.wrE (next : Int) y = 0
    · have HA : Bx (s.apW next P = ((s1.wr (next : Int) y).sy, (s1.wr (next : Int) y).syE)) := ⟨by rw [HAP.out]; exact apT_ok he⟩
      rw [he]
      have HO3 : Bx ((s1.wr (next : Int) y).O.length ≤ 1000000) := ⟨by have := wr_O (s := s1) (next : Int) y; have := HOk.out; omega⟩
      clear he HAP
      generalize s1.wr (next : Int) y = s3 at HA HD3 HO3
      obtain ⟨k1, k2, k3⟩ := hk
      go_wp2_with fail
      refine (sync_any g own3 s3 _ HD3.out HO3.out).mono ?_
      rintro e w9 ⟨rfl, hD9, hk9⟩
      have HD9 : Bx _ := ⟨hD9⟩
      have HDI9 : Bx _ := ⟨HDI3.out.trans (Did.same hk9)⟩
      clear hD9 hk9 k1 k2 k3
      go_wp2
      go_ret
      exact ⟨by rw [HA.out]; rfl, own3, by rw [HA.out]; exact HD9.out, HDI9.out⟩
    · have HA : Bx (s.apW next P = (s1.wr (next : Int) y, s1.wrE (next : Int) y)) := ⟨by rw [HAP.out]; exact apT_err he⟩
      have heb : (s1.wrE (next : Int) y != 0) = true := by simpa using he
      clear he HAP hk
      generalize s1.wrE (next : Int) y = E at HA heb ⊢
      go_wp2
      go_ret
      exact ⟨by rw [HA.out]; rfl, own3, by rw [HA.out]; exact HD3.out, HDI3.out⟩
set_option maxRecDepth 100000 in
set_option maxHeartbeats 2000000 in
theorem lwrite_more (gl g : Nat) (own : Nat → Prop) (s : DS) (next b off m cap : Nat) (P : List (List Int)) (w : World) (hD : Dsk w g own s) (hc0 : w.cell? ⟨gl, 0, none⟩ = some (.pointer (some ⟨g, 0, none⟩))) (hc2 : w.cell? ⟨gl, 2, none⟩ = some (.int .i64 (next : Int))) (hgl : ¬ own gl)
    (hT : TxF own w (some ⟨b, off, none⟩) m cap P) (hm : 1 < m) (hm2 : m ≤ 1000) (hn : next ≤ 4096) (hO : s.O.length ≤ 900000) :
    Calls Tryz.prog 288 #[.pointer (some ⟨gl, 0, none⟩), .slice (some ⟨b, off, none⟩) m cap] w fun e w' => e = .returned (.int .i64 (s.apW next P).2) ∧ ∃ own', Dsk w' g own' (s.apW next P).1 ∧ Did own w w' own' := by
  have hcap : ¬ cap = 1 := by have := hT.le_cap; omega
  have hm1 : (1 : Int) ≤ (m : Int) := by omega
  have hm0 : 0 < m := by omega
  have hgs : gl < w.heap.size := World.block_lt_of_cell? w _ hc0
  have HCL : Bx (∀ W own2, Did own w W own2 → W.cell? ⟨gl, 0, none⟩ = some (.pointer (some ⟨g, 0, none⟩)) ∧ W.cell? ⟨gl, 2, none⟩ = some (.int .i64 (next : Int))) := ⟨fun W own2 hd => ⟨cell_did hd hgs hgl hc0, cell_did hd hgs hgl hc2⟩⟩
  have HTX : Bx (TxF own w (some ⟨b, off, none⟩) m cap P) := ⟨hT⟩
  have HD0 : Bx (Dsk w g own s) := ⟨hD⟩
  have HPL : Bx (P.length = m) := ⟨hT.len_eq⟩
  have HO0 : Bx (s.O.length ≤ 900000) := ⟨hO⟩
  have hcc := hT.le_cap
  have hcm := hT.cap_le
  unfold maxLen at hcm
  clear hD hT hO hc0 hc2 hgl hgs
  go_enter Tryz.func288, Tryz.ntmps288
  go_wp2
  go_loopw [13] (fun i wr => ∃ (k : Nat) (s1 : DS) (own1 : Nat → Prop), k ≤ m - 1 ∧ i = .int .i64 (k : Int) ∧ Bx (wrL s1 (next + 1 + k) (P.drop (1 + k)) = wrL s (next + 1) (P.drop 1)) ∧ Bx (s1.O.length ≤ 900000 + k) ∧ Bx (Dsk wr g own1 s1) ∧ Bx (Did own w wr own1)) (fun i _ => m - (intOf i).toNat)
  case atStart => exact ⟨0, s, own, Nat.zero_le _, rfl, ⟨rfl⟩, ⟨by have := HO0.out; omega⟩, HD0, ⟨Did.same (Kept.refl _ _)⟩⟩
  case round =>
    obtain ⟨k, s1, own1, hk1, rfl, HW, HOk, HD1, HDI⟩ := hrel
    clear HD0
    by_cases hlt : k < m - 1
    · have hkI : (k : Int) < ((m - 1 : Nat) : Int) := by omega
      obtain ⟨b9, off9, hb9, _, _, hc9⟩ := (HTX.out.did HDI.out).spot (by omega)
      obtain ⟨rfl, rfl⟩ : b = b9 ∧ off = off9 := by cases hb9; exact ⟨rfl, rfl⟩
      obtain ⟨ak, lk, ck, hck, hbtk, hfk⟩ := hc9 (1 + k) (by omega)
      rw [← Nat.add_assoc] at hck
      have HGO : Bx (s1.wrE ((next + 1 + k : Nat) : Int) (P.getD (1 + k) []) = 0 → wrL (s1.wr ((next + 1 + k : Nat) : Int) (P.getD (1 + k) [])) (next + 1 + (k + 1)) (P.drop (1 + (k + 1))) = wrL s (next + 1) (P.drop 1)) := ⟨fun he => by
        rw [← HW.out, wrL_go (by rw [HPL.out]; omega) he]; rfl⟩
      have HER : Bx (s1.wrE ((next + 1 + k : Nat) : Int) (P.getD (1 + k) []) ≠ 0 → s.apW next P = (s1.wr ((next + 1 + k : Nat) : Int) (P.getD (1 + k) []), s1.wrE ((next + 1 + k : Nat) : Int) (P.getD (1 + k) []))) := ⟨fun he => by
        refine apW_err ?_ he
        rw [← HW.out, wrL_er (by rw [HPL.out]; omega) he]⟩
      generalize P.getD (1 + k) [] = y at hbtk HGO HER
      have hk : wr.drew.cell? ⟨gl, 0, none⟩ = some (.pointer (some ⟨g, 0, none⟩)) ∧ wr.drew.cell? ⟨gl, 2, none⟩ = some (.int .i64 (next : Int)) := ⟨(HCL.out wr own1 HDI.out).1, (HCL.out wr own1 HDI.out).2⟩
      have HDk : Bx (Dsk wr.drew g own1 s1) := ⟨HD1.out.drewN 1⟩
      have HBk : Bx (Bts wr.drew ak lk ck y ∧ (0 < lk → ∀ p, ak = some p → ¬ own1 p.block)) := ⟨hbtk.drewN 1, hfk⟩
      replace HDI : Bx (Did own w wr.drew own1) := ⟨HDI.out.trans (Did.same ((Kept.refl own1 wr).drewN 1))⟩
      have hw1 : IntKind.i64.wrap ((next : Int) + 1) = (next : Int) + 1 := IntWalk.i64_in _ (by omega)
      have hw2 : IntKind.i64.wrap ((next : Int) + 1 + (k : Int)) = (next : Int) + 1 + (k : Int) := IntWalk.i64_in _ (by omega)
      clear hc9 hbtk hfk hb9 HD1 HW
      go_wp2_with fail
      clear hck
      refine wp_region_held_drew (S := fun W => W.cell? ⟨gl, 0, none⟩ = some (.pointer (some ⟨g, 0, none⟩)) ∧ W.cell? ⟨gl, 2, none⟩ = some (.int .i64 (next : Int))) (by kernel_rfl) hk (fun _ => ?_)
      generalize wr.drew = wd at hk HDk HBk HDI ⊢
      refine wpAnyH_take (i := 0) (oi := ⟨some 18, .move (.tmp 0), 126, "wal.go:138", #[], none⟩) (v := ?vlwr41) rfl (by kernel_rfl) (by kernel_rfl) (by kernel_rfl) (fun _ _ _ h => h) (Or.inl ⟨by rfl, ?ylwr41⟩) hk ?rlwr41
      case ylwr41 => (intro w hSw; (try dsimp only at hSw); go_simp; first | done | with_reducible rfl)
      simp only [Act.put, List.setIfInBounds_toArray, List.set_cons_zero, List.set_cons_succ]
      refine wpAnyH_take (i := 1) (oi := ⟨some 19, .nilCheck (.tmp 18), 0, "wal.go:138", #[⟨0, .data⟩], none⟩) (v := ?vlwr42) rfl (by kernel_rfl) (by kernel_rfl) (by kernel_rfl) (fun _ _ _ h => h) (Or.inl ⟨by rfl, ?ylwr42⟩) hk ?rlwr42
      case ylwr42 => (intro w hSw; (try dsimp only at hSw); go_simp; first | done | with_reducible rfl)
      simp only [Act.put, List.setIfInBounds_toArray, List.set_cons_zero, List.set_cons_succ]
      refine wpAnyH_take (i := 2) (oi := ⟨some 20, .fieldAddr 207 (.tmp 19) 0, 0, "wal.go:138", #[⟨1, .data⟩], none⟩) (v := ?vlwr43) rfl (by kernel_rfl) (by kernel_rfl) (by kernel_rfl) (fun _ _ _ h => h) (Or.inl ⟨by rfl, ?ylwr43⟩) hk ?rlwr43
      case ylwr43 => (intro w hSw; (try dsimp only at hSw); go_simp; first | done | with_reducible rfl)
      simp only [Act.put, List.setIfInBounds_toArray, List.set_cons_zero, List.set_cons_succ]
      refine wpAnyH_take (i := 3) (oi := ⟨some 21, .load 27 (.tmp 20), 27, "wal.go:138", #[⟨2, .data⟩], none⟩) (v := ?vlwr44) rfl (by kernel_rfl) (by kernel_rfl) (by kernel_rfl) (fun _ _ _ h => h) (Or.inl ⟨by rfl, ?ylwr44⟩) hk ?rlwr44
      case ylwr44 => (intro w hSw; have hcw := hSw.1; clear hSw; go_simp; first | done | with_reducible rfl)
      simp only [Act.put, List.setIfInBounds_toArray, List.set_cons_zero, List.set_cons_succ]
      refine wpAnyH_take (i := 4) (oi := ⟨some 22, .move (.tmp 0), 126, "wal.go:138", #[], none⟩) (v := ?vlwr45) rfl (by kernel_rfl) (by kernel_rfl) (by kernel_rfl) (fun _ _ _ h => h) (Or.inl ⟨by rfl, ?ylwr45⟩) hk ?rlwr45
      case ylwr45 => (intro w hSw; (try dsimp only at hSw); go_simp; first | done | with_reducible rfl)
      simp only [Act.put, List.setIfInBounds_toArray, List.set_cons_zero, List.set_cons_succ]
      refine wpAnyH_take (i := 5) (oi := ⟨some 23, .nilCheck (.tmp 22), 0, "wal.go:138", #[⟨4, .data⟩], none⟩) (v := ?vlwr46) rfl (by kernel_rfl) (by kernel_rfl) (by kernel_rfl) (fun _ _ _ h => h) (Or.inl ⟨by rfl, ?ylwr46⟩) hk ?rlwr46
      case ylwr46 => (intro w hSw; (try dsimp only at hSw); go_simp; first | done | with_reducible rfl)
      simp only [Act.put, List.setIfInBounds_toArray, List.set_cons_zero, List.set_cons_succ]
      refine wpAnyH_take (i := 6) (oi := ⟨some 24, .fieldAddr 207 (.tmp 23) 2, 0, "wal.go:138", #[⟨5, .data⟩], none⟩) (v := ?vlwr47) rfl (by kernel_rfl) (by kernel_rfl) (by kernel_rfl) (fun _ _ _ h => h) (Or.inl ⟨by rfl, ?ylwr47⟩) hk ?rlwr47
      case ylwr47 => (intro w hSw; (try dsimp only at hSw); go_simp; first | done | with_reducible rfl)
      simp only [Act.put, List.setIfInBounds_toArray, List.set_cons_zero, List.set_cons_succ]
      refine wpAnyH_take (i := 7) (oi := ⟨some 25, .load 3 (.tmp 24), 3, "wal.go:138", #[⟨6, .data⟩], none⟩) (v := ?vlwr48) rfl (by kernel_rfl) (by kernel_rfl) (by kernel_rfl) (fun _ _ _ h => h) (Or.inl ⟨by rfl, ?ylwr48⟩) hk ?rlwr48
      case ylwr48 => (intro w hSw; have hcw := hSw.2; clear hSw; go_simp; first | done | with_reducible rfl)
      simp only [Act.put, List.setIfInBounds_toArray, List.set_cons_zero, List.set_cons_succ]
      refine wpAnyH_take (i := 8) (oi := ⟨some 26, .binOp .add 3 (.tmp 25) (.const (Value.int IntKind.i64 1)) 3, 3, "wal.go:138", #[⟨7, .data⟩], none⟩) (v := ?vlwr49) rfl (by kernel_rfl) (by kernel_rfl) (by kernel_rfl) (fun _ _ _ h => h) (Or.inl ⟨by rfl, ?ylwr49⟩) hk ?rlwr49
      case ylwr49 => (intro w hSw; (try dsimp only at hSw); go_simp; first | done | with_reducible rfl)
      simp only [Act.put, List.setIfInBounds_toArray, List.set_cons_zero, List.set_cons_succ]
      refine wpAnyH_take (i := 9) (oi := ⟨some 27, .move (.tmp 5), 3, "wal.go:138", #[], none⟩) (v := ?vlwr410) rfl (by kernel_rfl) (by kernel_rfl) (by kernel_rfl) (fun _ _ _ h => h) (Or.inl ⟨by rfl, ?ylwr410⟩) hk ?rlwr410
      case ylwr410 => (intro w hSw; (try dsimp only at hSw); go_simp; first | done | with_reducible rfl)
      simp only [Act.put, List.setIfInBounds_toArray, List.set_cons_zero, List.set_cons_succ]
      refine wpAnyH_take (i := 10) (oi := ⟨some 28, .binOp .add 3 (.tmp 26) (.tmp 27) 3, 3, "wal.go:138", #[⟨8, .data⟩, ⟨9, .data⟩], none⟩) (v := ?vlwr411) rfl (by kernel_rfl) (by kernel_rfl) (by kernel_rfl) (fun _ _ _ h => h) (Or.inl ⟨by rfl, ?ylwr411⟩) hk ?rlwr411
      case ylwr411 => (intro w hSw; (try dsimp only at hSw); go_simp; first | done | with_reducible rfl)
      simp only [Act.put, List.setIfInBounds_toArray, List.set_cons_zero, List.set_cons_succ]
      refine wpAnyH_take (i := 11) (oi := ⟨some 29, .move (.tmp 6), 34, "wal.go:138", #[], none⟩) (v := ?vlwr412) rfl (by kernel_rfl) (by kernel_rfl) (by kernel_rfl) (fun _ _ _ h => h) (Or.inl ⟨by rfl, ?ylwr412⟩) hk ?rlwr412
      case ylwr412 => (intro w hSw; (try dsimp only at hSw); go_simp; first | done | with_reducible rfl)
      simp only [Act.put, List.setIfInBounds_toArray, List.set_cons_zero, List.set_cons_succ]
      refine wpAnyH_ready (rs := [12]) (by decide +kernel) (by simp) ?_
      refine AllReadyH.cons (o := ⟨some 30, .call { callee := .value (.func 228), args := #[.tmp 21, .tmp 28, .tmp 29], argTypes := #[27, 3, 34] }, 28, "wal.go:138", #[⟨3, .data⟩, ⟨10, .data⟩, ⟨11, .data⟩], none⟩) rfl (fun K hK => ?_) AllReadyH.nil
      go_simp
      refine (write_any g own1 s1 _ ak lk ck y _ HDk.out HBk.out.1 HBk.out.2 (by have := HOk.out; omega)).mono ?_
      rintro e1 w8 ⟨rfl, own3, hD3, hdid3⟩
      replace hk : w8.cell? ⟨gl, 0, none⟩ = some (.pointer (some ⟨g, 0, none⟩)) ∧ w8.cell? ⟨gl, 2, none⟩ = some (.int .i64 (next : Int)) := HCL.out w8 own3 (HDI.out.trans hdid3)
      have HD3 : Bx _ := ⟨hD3⟩
      have HDI3 : Bx _ := ⟨HDI.out.trans hdid3⟩
      clear hD3 hdid3
      refine hK.out _ _ hk (fun _ => ?_)
      clear hK K
      try simp only [Act.put, List.setIfInBounds_toArray, List.set_cons_zero, List.set_cons_succ]
      refine wpAnyH_take (i := 13) (oi := ⟨some 7, .assign (.tmp 30), 28, "wal.go:138", #[⟨12, .data⟩, ⟨12, .chain⟩, ⟨0, .phase⟩, ⟨1, .phase⟩, ⟨2, .phase⟩, ⟨3, .phase⟩, ⟨4, .phase⟩, ⟨5, .phase⟩, ⟨6, .phase⟩, ⟨7, .phase⟩, ⟨8, .phase⟩, ⟨9, .phase⟩, ⟨10, .phase⟩, ⟨11, .phase⟩, ⟨12, .phase⟩], none⟩) (v := ?vlwr413) rfl (by kernel_rfl) (by kernel_rfl) (by kernel_rfl) (fun _ _ _ h => h) (Or.inl ⟨by rfl, ?ylwr413⟩) hk ?rlwr413
      case ylwr413 => (intro w hSw; (try dsimp only at hSw); go_simp; first | done | with_reducible rfl)
      simp only [Act.put, List.setIfInBounds_toArray, List.set_cons_zero, List.set_cons_succ]
      refine wpAnyH_done (by decide +kernel) ?_ _
      clear HDk HBk HDI hk
      have hx : (next : Int) + 1 + (k : Int) = ((next + 1 + k : Nat) : Int) := by omega
      rw [hx] at HD3 ⊢
      clear hw1 hw2 hx
      by_cases he : s1.wrE ((next + 1 + k : Nat) : Int) y = 0
      · have HW' : Bx _ := ⟨HGO.out he⟩
        have HO' : Bx ((s1.wr ((next + 1 + k : Nat) : Int) y).O.length ≤ 900000 + (k + 1)) := ⟨by have := wr_O (s := s1) ((next + 1 + k : Nat) : Int) y; have := HOk.out; omega⟩
        rw [he]
        clear he HGO HER
        generalize s1.wr ((next + 1 + k : Nat) : Int) y = s2 at HW' HO' HD3
        go_wp2
        go_roundw
        case rel => exact ⟨k + 1, s2, own3, by omega, by go_num, HW', HO', HD3, HDI3⟩
        case measure => simp [intOf]; omega
      · have HA : Bx _ := ⟨HER.out he⟩
        have heb : (s1.wrE ((next + 1 + k : Nat) : Int) y != 0) = true := by simpa using he
        clear he HGO HER
        generalize s1.wrE ((next + 1 + k : Nat) : Int) y = E at HA heb ⊢
        go_wp2
        go_ret
        exact ⟨by rw [HA.out]; rfl, own3, by rw [HA.out]; exact HD3.out, HDI3.out⟩
    · have hkm : k = m - 1 := by omega
      have HW1 : Bx ((s1, (0 : Int)) = wrL s (next + 1) (P.drop 1)) := ⟨by
        rw [← HW.out, List.drop_of_length_le (by rw [HPL.out]; omega)]; rfl⟩
      have hkI : ¬ (k : Int) < ((m - 1 : Nat) : Int) := by omega
      have hmI : (1 : Int) < (m : Int) := by omega
      obtain ⟨c0, c2⟩ := HCL.out wr own1 HDI.out
      clear HW hkm
      go_wp2_with fail
      refine (sync_any g own1 s1 _ HD1.out (by have := HOk.out; omega)).mono ?_
      rintro e w5 ⟨rfl, hD5, hk5⟩
      have HD5 : Bx _ := ⟨hD5⟩
      have HDI5 : Bx _ := ⟨HDI.out.trans (Did.same hk5)⟩
      clear hD5 hk5 c0 c2 HDI HD1
      by_cases hE : s1.syE = 0
      · have HAP : Bx (s.apW next P = apT s1.sy next (P.getD 0 [])) := ⟨apW_more HW1.out (by rw [HPL.out]; exact hm) hE⟩
        have HOs : Bx (s1.sy.O.length ≤ 901000) := ⟨by have := sy_O (s := s1); have := HOk.out; omega⟩
        rw [hE]
        clear hE HW1 HOk
        generalize s1.sy = s2 at HAP HOs HD5
        clear s1
        obtain ⟨s1, HOk, HAP, HD1⟩ : ∃ s1 : DS, Bx (s1.O.length ≤ 901000) ∧ Bx (s.apW next P = apT s1 next (P.getD 0 [])) ∧ Bx (Dsk w5 g own1 s1) := ⟨s2, HOs, HAP, HD5⟩
        obtain ⟨wl, hwl⟩ : ∃ wl, wl = w5 := ⟨_, rfl⟩
        have HDI : Bx (Did own w w5 own1) := HDI5
        rw [← hwl] at HD1 HDI
        clear HDI5 HD5 HOs
        subst hwl
        -- the first piece; behind it the Sync
        obtain ⟨b9, off9, hb9, _, _, hc9⟩ := (HTX.out.did HDI.out).spot (by omega)
        obtain ⟨rfl, rfl⟩ : b = b9 ∧ off = off9 := by cases hb9; exact ⟨rfl, rfl⟩
        obtain ⟨a0, l0, c0, hc0, hbt0, hf0⟩ := hc9 0 (by omega)
        rw [Nat.add_zero] at hc0
        have HCL2 : Bx (∀ W own2, Did own w W own2 → W.cell? ⟨gl, 0, none⟩ = some (.pointer (some ⟨g, 0, none⟩)) ∧ W.cell? ⟨gl, 2, none⟩ = some (.int .i64 (next : Int)) ∧ W.cell? ⟨b, off, none⟩ = some (.slice a0 l0 c0)) := ⟨fun W own2 hd => ⟨(HCL.out W own2 hd).1, (HCL.out W own2 hd).2, by
          obtain ⟨b8, off8, hb8, hlt8, hnb8, hc8⟩ := HTX.out.spot (by omega)
          obtain ⟨rfl, rfl⟩ : b = b8 ∧ off = off8 := by cases hb8; exact ⟨rfl, rfl⟩
          obtain ⟨a1, l1, c1, hc1, _, _⟩ := hc8 0 (by omega)
          rw [Nat.add_zero] at hc1
          have h1 := cell_did HDI.out hlt8 hnb8 hc1
          rw [hc0] at h1
          rw [h1]
          exact cell_did hd hlt8 hnb8 hc1⟩⟩
        generalize P.getD 0 [] = y at hbt0 HAP
        have hk : wl.drew.cell? ⟨gl, 0, none⟩ = some (.pointer (some ⟨g, 0, none⟩)) ∧ wl.drew.cell? ⟨gl, 2, none⟩ = some (.int .i64 (next : Int)) ∧ wl.drew.cell? ⟨b, off, none⟩ = some (.slice a0 l0 c0) := ⟨(HCL.out wl own1 HDI.out).1, (HCL.out wl own1 HDI.out).2, hc0⟩
        have HDk : Bx (Dsk wl.drew g own1 s1) := ⟨HD1.out.drewN 1⟩
        have HBk : Bx (Bts wl.drew a0 l0 c0 y ∧ (0 < l0 → ∀ p, a0 = some p → ¬ own1 p.block)) := ⟨hbt0.drewN 1, hf0⟩
        replace HDI : Bx (Did own w wl.drew own1) := ⟨HDI.out.trans (Did.same ((Kept.refl own1 wl).drewN 1))⟩
        clear hc0 hc9 hbt0 hf0 hb9 HD1
        go_wp2_with fail
        refine wp_region_held_drew (S := fun W => W.cell? ⟨gl, 0, none⟩ = some (.pointer (some ⟨g, 0, none⟩)) ∧ W.cell? ⟨gl, 2, none⟩ = some (.int .i64 (next : Int)) ∧ W.cell? ⟨b, off, none⟩ = some (.slice a0 l0 c0)) (by kernel_rfl) hk (fun _ => ?_)
        generalize wl.drew = wd at hk HDk HBk HDI ⊢
        refine wpAnyH_take (i := 0) (oi := ⟨some 46, .move (.tmp 0), 126, "wal.go:147", #[], none⟩) (v := ?vlwr121) rfl (by kernel_rfl) (by kernel_rfl) (by kernel_rfl) (fun _ _ _ h => h) (Or.inl ⟨by rfl, ?ylwr121⟩) hk ?rlwr121
        case ylwr121 => (intro w hSw; (try dsimp only at hSw); go_simp; first | done | with_reducible rfl)
        simp only [Act.put, List.setIfInBounds_toArray, List.set_cons_zero, List.set_cons_succ]
        refine wpAnyH_take (i := 1) (oi := ⟨some 47, .nilCheck (.tmp 46), 0, "wal.go:147", #[⟨0, .data⟩], none⟩) (v := ?vlwr122) rfl (by kernel_rfl) (by kernel_rfl) (by kernel_rfl) (fun _ _ _ h => h) (Or.inl ⟨by rfl, ?ylwr122⟩) hk ?rlwr122
        case ylwr122 => (intro w hSw; (try dsimp only at hSw); go_simp; first | done | with_reducible rfl)
        simp only [Act.put, List.setIfInBounds_toArray, List.set_cons_zero, List.set_cons_succ]
        refine wpAnyH_take (i := 2) (oi := ⟨some 48, .fieldAddr 207 (.tmp 47) 0, 0, "wal.go:147", #[⟨1, .data⟩], none⟩) (v := ?vlwr123) rfl (by kernel_rfl) (by kernel_rfl) (by kernel_rfl) (fun _ _ _ h => h) (Or.inl ⟨by rfl, ?ylwr123⟩) hk ?rlwr123
        case ylwr123 => (intro w hSw; (try dsimp only at hSw); go_simp; first | done | with_reducible rfl)
        simp only [Act.put, List.setIfInBounds_toArray, List.set_cons_zero, List.set_cons_succ]
        refine wpAnyH_take (i := 3) (oi := ⟨some 49, .load 27 (.tmp 48), 27, "wal.go:147", #[⟨2, .data⟩], none⟩) (v := ?vlwr124) rfl (by kernel_rfl) (by kernel_rfl) (by kernel_rfl) (fun _ _ _ h => h) (Or.inl ⟨by rfl, ?ylwr124⟩) hk ?rlwr124
        case ylwr124 => (intro w hSw; have hcw := hSw.1; clear hSw; go_simp; first | done | with_reducible rfl)
        simp only [Act.put, List.setIfInBounds_toArray, List.set_cons_zero, List.set_cons_succ]
        refine wpAnyH_take (i := 4) (oi := ⟨some 50, .move (.tmp 0), 126, "wal.go:147", #[], none⟩) (v := ?vlwr125) rfl (by kernel_rfl) (by kernel_rfl) (by kernel_rfl) (fun _ _ _ h => h) (Or.inl ⟨by rfl, ?ylwr125⟩) hk ?rlwr125
        case ylwr125 => (intro w hSw; (try dsimp only at hSw); go_simp; first | done | with_reducible rfl)
        simp only [Act.put, List.setIfInBounds_toArray, List.set_cons_zero, List.set_cons_succ]
        refine wpAnyH_take (i := 5) (oi := ⟨some 51, .nilCheck (.tmp 50), 0, "wal.go:147", #[⟨4, .data⟩], none⟩) (v := ?vlwr126) rfl (by kernel_rfl) (by kernel_rfl) (by kernel_rfl) (fun _ _ _ h => h) (Or.inl ⟨by rfl, ?ylwr126⟩) hk ?rlwr126
        case ylwr126 => (intro w hSw; (try dsimp only at hSw); go_simp; first | done | with_reducible rfl)
        simp only [Act.put, List.setIfInBounds_toArray, List.set_cons_zero, List.set_cons_succ]
        refine wpAnyH_take (i := 6) (oi := ⟨some 52, .fieldAddr 207 (.tmp 51) 2, 0, "wal.go:147", #[⟨5, .data⟩], none⟩) (v := ?vlwr127) rfl (by kernel_rfl) (by kernel_rfl) (by kernel_rfl) (fun _ _ _ h => h) (Or.inl ⟨by rfl, ?ylwr127⟩) hk ?rlwr127
        case ylwr127 => (intro w hSw; (try dsimp only at hSw); go_simp; first | done | with_reducible rfl)
        simp only [Act.put, List.setIfInBounds_toArray, List.set_cons_zero, List.set_cons_succ]
        refine wpAnyH_take (i := 7) (oi := ⟨some 53, .load 3 (.tmp 52), 3, "wal.go:147", #[⟨6, .data⟩], none⟩) (v := ?vlwr128) rfl (by kernel_rfl) (by kernel_rfl) (by kernel_rfl) (fun _ _ _ h => h) (Or.inl ⟨by rfl, ?ylwr128⟩) hk ?rlwr128
        case ylwr128 => (intro w hSw; have hcw := hSw.2.1; clear hSw; go_simp; first | done | with_reducible rfl)
        simp only [Act.put, List.setIfInBounds_toArray, List.set_cons_zero, List.set_cons_succ]
        refine wpAnyH_take (i := 8) (oi := ⟨some 54, .move (.tmp 1), 60, "wal.go:147", #[], none⟩) (v := ?vlwr129) rfl (by kernel_rfl) (by kernel_rfl) (by kernel_rfl) (fun _ _ _ h => h) (Or.inl ⟨by rfl, ?ylwr129⟩) hk ?rlwr129
        case ylwr129 => (intro w hSw; (try dsimp only at hSw); go_simp; first | done | with_reducible rfl)
        simp only [Act.put, List.setIfInBounds_toArray, List.set_cons_zero, List.set_cons_succ]
        refine wpAnyH_take (i := 9) (oi := ⟨some 55, .indexAddr 60 (.tmp 54) (.const (Value.int IntKind.i64 0)), 0, "wal.go:147", #[⟨8, .data⟩], none⟩) (v := ?vlwr1210) rfl (by kernel_rfl) (by kernel_rfl) (by kernel_rfl) (fun _ _ _ h => h) (Or.inl ⟨by rfl, ?ylwr1210⟩) hk ?rlwr1210
        case ylwr1210 => (intro w hSw; (try dsimp only at hSw); go_simp; first | done | with_reducible rfl)
        simp only [Act.put, List.setIfInBounds_toArray, List.set_cons_zero, List.set_cons_succ]
        refine wpAnyH_take (i := 10) (oi := ⟨some 56, .load 34 (.tmp 55), 34, "wal.go:147", #[⟨9, .data⟩], none⟩) (v := ?vlwr1211) rfl (by kernel_rfl) (by kernel_rfl) (by kernel_rfl) (fun _ _ _ h => h) (Or.inl ⟨by rfl, ?ylwr1211⟩) hk ?rlwr1211
        case ylwr1211 => (intro w hSw; have hcw := hSw.2.2; clear hSw; go_simp; first | done | with_reducible rfl)
        simp only [Act.put, List.setIfInBounds_toArray, List.set_cons_zero, List.set_cons_succ]
        refine wpAnyH_ready (rs := [11]) (by decide +kernel) (by simp) ?_
        refine AllReadyH.cons (o := ⟨some 57, .call { callee := .value (.func 228), args := #[.tmp 49, .tmp 53, .tmp 56], argTypes := #[27, 3, 34] }, 28, "wal.go:147", #[⟨3, .data⟩, ⟨7, .data⟩, ⟨10, .data⟩], none⟩) rfl (fun K hK => ?_) AllReadyH.nil
        go_simp
        refine (write_any g own1 s1 _ a0 l0 c0 y _ HDk.out HBk.out.1 HBk.out.2 (by have := HOk.out; omega)).mono ?_
        rintro e1 w8 ⟨rfl, own3, hD3, hdid3⟩
        replace hk : w8.cell? ⟨gl, 0, none⟩ = some (.pointer (some ⟨g, 0, none⟩)) ∧ w8.cell? ⟨gl, 2, none⟩ = some (.int .i64 (next : Int)) ∧ w8.cell? ⟨b, off, none⟩ = some (.slice a0 l0 c0) := HCL2.out w8 own3 (HDI.out.trans hdid3)
        have HD3 : Bx _ := ⟨hD3⟩
        have HDI3 : Bx _ := ⟨HDI.out.trans hdid3⟩
        clear hD3 hdid3
        refine hK.out _ _ hk (fun _ => ?_)
        clear hK K
        try simp only [Act.put, List.setIfInBounds_toArray, List.set_cons_zero, List.set_cons_succ]
        refine wpAnyH_take (i := 12) (oi := ⟨some 9, .assign (.tmp 57), 28, "wal.go:147", #[⟨11, .data⟩, ⟨11, .chain⟩, ⟨0, .phase⟩, ⟨1, .phase⟩, ⟨2, .phase⟩, ⟨3, .phase⟩, ⟨4, .phase⟩, ⟨5, .phase⟩, ⟨6, .phase⟩, ⟨7, .phase⟩, ⟨8, .phase⟩, ⟨9, .phase⟩, ⟨10, .phase⟩, ⟨11, .phase⟩], none⟩) (v := ?vlwr1212) rfl (by kernel_rfl) (by kernel_rfl) (by kernel_rfl) (fun _ _ _ h => h) (Or.inl ⟨by rfl, ?ylwr1212⟩) hk ?rlwr1212
        case ylwr1212 => (intro w hSw; (try dsimp only at hSw); go_simp; first | done | with_reducible rfl)
        simp only [Act.put, List.setIfInBounds_toArray, List.set_cons_zero, List.set_cons_succ]
        refine wpAnyH_done (by decide +kernel) ?_ _
        clear HDk HBk HDI
        by_cases he : s1.wrE (next : Int) y = 0
        · have HA : Bx (s.apW next P = ((s1.wr (next : Int) y).sy, (s1.wr (next : Int) y).syE)) := ⟨by rw [HAP.out]; exact apT_ok he⟩
          rw [he]
          have HO3 : Bx ((s1.wr (next : Int) y).O.length ≤ 1000000) := ⟨by have := wr_O (s := s1) (next : Int) y; have := HOk.out; omega⟩
          clear he HAP
          generalize s1.wr (next : Int) y = s3 at HA HD3 HO3
          obtain ⟨k1, k2, k3⟩ := hk
          go_wp2_with fail
          refine (sync_any g own3 s3 _ HD3.out HO3.out).mono ?_
          rintro e w9 ⟨rfl, hD9, hk9⟩
          have HD9 : Bx _ := ⟨hD9⟩
          have HDI9 : Bx _ := ⟨HDI3.out.trans (Did.same hk9)⟩
          clear hD9 hk9 k1 k2 k3
          go_wp2
          go_ret
          exact ⟨by rw [HA.out]; rfl, own3, by rw [HA.out]; exact HD9.out, HDI9.out⟩
        · have HA : Bx (s.apW next P = (s1.wr (next : Int) y, s1.wrE (next : Int) y)) := ⟨by rw [HAP.out]; exact apT_err he⟩
          have heb : (s1.wrE (next : Int) y != 0) = true := by simpa using he
          clear he HAP hk
          generalize s1.wrE (next : Int) y = E at HA heb ⊢
          go_wp2
          go_ret
          exact ⟨by rw [HA.out]; rfl, own3, by rw [HA.out]; exact HD3.out, HDI3.out⟩
      · have HA : Bx (s.apW next P = (s1.sy, s1.syE)) := ⟨apW_sy HW1.out (by rw [HPL.out]; exact hm) hE⟩
        have heb : (s1.syE != 0) = true := by simpa using hE
        clear hE HW1
        generalize s1.syE = E at HA heb ⊢
        go_wp2
        go_ret
        exact ⟨by rw [HA.out]; rfl, own1, by rw [HA.out]; exact HD5.out, HDI5.out⟩
set_option maxRecDepth 100000 in
theorem lwrite_any (gl g : Nat) (own : Nat → Prop) (s : DS) (next m cap : Nat) (a : Option Addr) (P : List (List Int)) (w : World) (hD : Dsk w g own s) (hc0 : w.cell? ⟨gl, 0, none⟩ = some (.pointer (some ⟨g, 0, none⟩))) (hc2 : w.cell? ⟨gl, 2, none⟩ = some (.int .i64 (next : Int))) (hgl : ¬ own gl)
    (hT : TxF own w a m cap P) (hm : 1 ≤ m) (hm2 : m ≤ 1000) (hn : next ≤ 4096) (hO : s.O.length ≤ 900000) :
    Calls Tryz.prog 288 #[.pointer (some ⟨gl, 0, none⟩), .slice a m cap] w fun e w' => e = .returned (.int .i64 (s.apW next P).2) ∧ ∃ own', Dsk w' g own' (s.apW next P).1 ∧ Did own w w' own' := by
  obtain ⟨b, off, rfl, _⟩ := hT.spot hm
  by_cases h1 : m = 1
  · by_cases h2 : cap = 1
    · exact lwrite_one1 gl g own s next b off m cap P w hD hc0 hc2 hgl hT h1 h2 hn hO
    · exact lwrite_one2 gl g own s next b off m cap P w hD hc0 hc2 hgl hT h1 h2 hn hO
  · exact lwrite_more gl g own s next b off m cap P w hD hc0 hc2 hgl hT (by omega) hm2 hn hO
end Go.Proofs.YtipakjenggeflaaGreatDoor
namespace Go.Proofs.YtipakjenggeflaaGreatDoor
open Go.RowKit
set_option linter.unusedVariables false

/-- whether it comes to a write -/
def LS.go (L : LS) (s : DS) (b : List Int) : Bool := decide (b.length ≤ 16384) && decide (L.next + ns (20 + b.length) ≤ s.F.length) && !L.failed
set_option maxRecDepth 100000 in
theorem LS.go_iff {L : LS} {s : DS} {b : List Int} : L.go s b = true ↔ b.length ≤ 16384 ∧ L.next + ns (20 + b.length) ≤ s.F.length ∧ L.failed = false := by simp [LS.go, and_assoc]
def LS.wr (L : LS) (s : DS) (b : List Int) : DS × Int := s.apW L.next (prt (frmL ((L.T.length : Int) + 1) b))
/-- the answer, the disk and the log behind it -/
def apE (s : DS) (L : LS) (b : List Int) : Int := if 16384 < b.length then 5 else if s.F.length < L.next + ns (20 + b.length) then 11 else if L.failed then 14 else (L.wr s b).2
def apS (s : DS) (L : LS) (b : List Int) : DS := if L.go s b then (L.wr s b).1 else s
def apL (s : DS) (L : LS) (b : List Int) : LS := if L.go s b then (if (L.wr s b).2 = 0 then ⟨L.T ++ [b], L.next + ns (20 + b.length), L.failed⟩ else { L with failed := true }) else L
set_option maxRecDepth 100000 in
theorem ap_no {s : DS} {L : LS} {b : List Int} (h : L.go s b = false) : apS s L b = s ∧ apL s L b = L := by unfold apS apL; rw [h]; exact ⟨rfl, rfl⟩
set_option maxRecDepth 100000 in
theorem ap_yes {s : DS} {L : LS} {b : List Int} (h : L.go s b = true) : apE s L b = (L.wr s b).2 ∧ apS s L b = (L.wr s b).1 := by
  obtain ⟨h1, h2, h3⟩ := LS.go_iff.1 h
  unfold apE apS
  rw [if_neg (by omega), if_neg (by omega), h3, h]; exact ⟨rfl, rfl⟩
set_option maxRecDepth 100000 in
theorem ap_ok {s : DS} {L : LS} {b : List Int} (h : L.go s b = true) (h0 : (L.wr s b).2 = 0) : apL s L b = ⟨L.T ++ [b], L.next + ns (20 + b.length), L.failed⟩ := by unfold apL; rw [h, if_pos rfl, if_pos h0]
set_option maxRecDepth 100000 in
theorem ap_er {s : DS} {L : LS} {b : List Int} (h : L.go s b = true) (h0 : (L.wr s b).2 ≠ 0) : apL s L b = { L with failed := true } := by unfold apL; rw [h, if_pos rfl, if_neg h0]
/-- a log between two stores -/
structure LgX (w : World) (gl : Nat) (own : Nat → Prop) (gd : Nat) (T : List (List Int)) (next : Nat) (failed : Bool) (vt : Value) : Prop where
  row : w.heap[gl]? = some (.cells #[.pointer (some ⟨gd, 0, none⟩), vt, .int .i64 (next : Int), .bool failed] 207 (0, 0))
  tl : TL w (fun k => own k ∧ k ≠ gl) vt T
  og : own gl
  lt : ∀ k, own k → k < w.heap.size
section
variable {w : World} {gl : Nat} {own : Nat → Prop} {gd : Nat} {T : List (List Int)} {next : Nat} {failed : Bool} {vt : Value}
set_option maxRecDepth 100000 in
theorem LgX.c2 (h : LgX w gl own gd T next failed vt) : w.cell? ⟨gl, 2, none⟩ = some (.int .i64 (next : Int)) := by rw [cell_of_row w gl 2 _ _ (0, 0) h.row]; rfl
set_option maxRecDepth 100000 in
theorem LgX.fr (h : LgX w gl own gd T next failed vt) (j : Nat) : w.frozen? ⟨gl, j, none⟩ = false := frozen_of_row _ _ j _ _ h.row
set_option maxRecDepth 100000 in
theorem LgX.drew (h : LgX w gl own gd T next failed vt) : LgX w.drew gl own gd T next failed vt := ⟨h.row, h.tl.keep (fun _ _ _ => rfl) (Nat.le_refl _) (fun _ _ h => h), h.og, h.lt⟩
set_option maxRecDepth 100000 in
theorem LgX.setNext (h : LgX w gl own gd T next failed vt) (n : Nat) (h0 : TOkW T) (h1 : T.length ≤ n) (h2 : n ≤ 4096) : LgRW (w.setCell ⟨gl, 2, none⟩ (.int .i64 (n : Int))) gl own gd ⟨T, n, failed⟩ vt :=
  ⟨heap_setCell_same w gl 2 _ _ _ h.row, h.tl.keep (fun k _ ho => heap_setCell_other w ⟨gl, 2, none⟩ k _ ho.2) (by simp [World.setCell]) (fun _ _ h => h), h.og, fun k hk => by have := h.lt k hk; simpa [World.setCell] using this, h0, h1, h2⟩
end
set_option maxRecDepth 100000 in
/-- one text more in a log: the row behind an append, then the store of its slice -/
theorem LgRW.more {wl w w6 : World} {gl : Nat} {own : Nat → Prop} {gd : Nat} {L : LS} {vt : Value} {xs : List Value} {a3 : Option Addr} {n c3 g4 cap4 : Nat} {l : List Int}
    (h : LgRW w gl own gd L vt) (hta : TAW w (fun k => own k ∧ k ≠ gl) vt L.T xs) (hbt : Bts w a3 n c3 l) (hfar : 0 < n → ∀ p, a3 = some p → ¬ own p.block ∧ wl.heap.size ≤ p.block) (hK : Kept own wl w)
    (ho : w6.ownsRow 0 34 1 (.slice (some ⟨g4, 0, none⟩) (L.T.length + 1) cap4) (L.T.length + 1) (xs ++ [.slice a3 n c3])) (hg : w.grownBy w6 vt.ownBlock) (hl : vt.ownBlock = some g4 ∨ g4 = w.heap.size) :
    w6.cell? ⟨gl, 1, none⟩ = some vt ∧ w6.frozen? ⟨gl, 1, none⟩ = false ∧ Bx (∃ own2 vt2, LgX (w6.setCell ⟨gl, 1, none⟩ (.slice (some ⟨g4, 0, none⟩) (L.T.length + 1) cap4)) gl own2 gd (L.T ++ [l]) L.next L.failed vt2 ∧ Kept own wl (w6.setCell ⟨gl, 1, none⟩ (.slice (some ⟨g4, 0, none⟩) (L.T.length + 1) cap4)) ∧ (∀ k, own k → own2 k) ∧ ∀ k, own2 k → own k ∨ (wl.heap.size ≤ k ∧ k < (w6.setCell ⟨gl, 1, none⟩ (.slice (some ⟨g4, 0, none⟩) (L.T.length + 1) cap4)).heap.size)) := by
  have hgl : vt.ownBlock ≠ some gl := fun e => (h.tl.ob gl e).2 rfl
  have hglt := h.lt gl h.og
  have hrow6 : w6.heap[gl]? = some (.cells #[.pointer (some ⟨gd, 0, none⟩), vt, .int .i64 (L.next : Int), .bool L.failed] 207 (0, 0)) := (hg.block gl hglt (fun e => hgl e.symm)).trans h.row
  have hg4 : g4 ≠ gl := by
    rcases hl with h1 | h1
    · intro e; rw [e] at h1; exact hgl h1
    · omega
  have hg4l : g4 < w6.heap.size := (ho.lt g4 rfl).2
  have hsz : (w6.setCell ⟨gl, 1, none⟩ (.slice (some ⟨g4, 0, none⟩) (L.T.length + 1) cap4)).heap.size = w6.heap.size := by simp [World.setCell]
  have hvf : ∀ {k : Nat}, vt.ownBlock = some k → k < w.heap.size := fun {k} e => h.lt k (h.tl.ob k e).1
  refine ⟨by rw [cell_of_row w6 gl 1 _ _ (0, 0) hrow6]; rfl, frozen_of_row _ _ 1 _ _ hrow6, ⟨fun k => own k ∨ k = g4 ∨ (0 < n ∧ ∃ p, a3 = some p ∧ p.block = k), _, ⟨heap_setCell_same w6 gl 1 _ _ _ hrow6, ?_, .inl h.og, fun k hk => ?_⟩, ?_, fun k hk => .inl hk, fun k hk => ?_⟩⟩
  · have hcar : ∀ {ai : Option Addr} {li ci : Nat} {y : List Int}, Bts w ai li ci y → (0 < li → ∀ p, ai = some p → vt.ownBlock ≠ some p.block ∧ p.block ≠ gl) → Bts (w6.setCell ⟨gl, 1, none⟩ (.slice (some ⟨g4, 0, none⟩) (L.T.length + 1) cap4)) ai li ci y ∧ (0 < li → ∀ p, ai = some p → (Value.slice (some ⟨g4, 0, none⟩) (L.T.length + 1) cap4).ownBlock ≠ some p.block) := by
      intro ai li ci y hy hn
      refine ⟨hy.keep (fun hp p e => (heap_setCell_other w6 ⟨gl, 1, none⟩ p.block _ (hn hp p e).2).trans (hg.block _ (hy.lt hp e) (fun hh => (hn hp p e).1 hh.symm))) (by rw [hsz]; exact hg.size), fun hp p e => ?_⟩
      show some g4 ≠ some p.block
      rcases hl with h1 | h1
      · rw [← h1]; exact (hn hp p e).1
      · intro e2
        have e4 : g4 = p.block := Option.some.inj e2
        have := hy.lt hp e
        omega
    refine ⟨⟨xs ++ [.slice a3 n c3], ?_, fun i hi => ?_⟩, fun k hk => ?_⟩
    · rw [List.length_append]
      refine ⟨ho.1, ?_⟩
      rcases ho.2 with h3 | ⟨g', cap', cur, hv, hgb, hh, r⟩
      · exact .inl h3
      · refine .inr ⟨g', cap', cur, hv, hgb, ?_, r⟩
        have e : g' = g4 := by injection hv with e1; injection e1 with e1; injection e1 with e1; exact e1.symm
        rw [e] at hh ⊢
        exact (heap_setCell_other w6 ⟨gl, 1, none⟩ g4 _ hg4).trans hh
    · rw [List.length_append] at hi
      by_cases hiL : i < L.T.length
      · obtain ⟨ai, li, ci, e1, e2, e3⟩ := hta.hx i hiL
        obtain ⟨f1, f2⟩ := hcar e2 (fun hp p e => ⟨(e3 hp p e).2, (e3 hp p e).1.2⟩)
        refine ⟨ai, li, ci, by rw [List.getElem?_append_left (by have := hta.hxl; omega)]; exact e1, ?_, fun hp p e => ⟨⟨.inl (e3 hp p e).1.1, (e3 hp p e).1.2⟩, f2 hp p e⟩⟩
        rw [List.getD_eq_getElem?_getD, List.getElem?_append_left hiL, ← List.getD_eq_getElem?_getD]; exact f1
      · obtain rfl : i = L.T.length := by simp at hi; omega
        have hfar2 : 0 < n → ∀ p, a3 = some p → vt.ownBlock ≠ some p.block ∧ p.block ≠ gl := fun hp p e => ⟨fun e2 => (hfar hp p e).1 (h.tl.ob _ e2).1, fun e2 => (hfar hp p e).1 (by rw [e2]; exact h.og)⟩
        obtain ⟨f1, f2⟩ := hcar hbt hfar2
        refine ⟨a3, n, c3, by rw [List.getElem?_append_right (by have := hta.hxl; omega), hta.hxl, Nat.sub_self]; rfl, ?_, fun hp p e => ⟨⟨.inr (.inr ⟨hp, p, e, rfl⟩), (hfar2 hp p e).2⟩, f2 hp p e⟩⟩
        rw [List.getD_eq_getElem?_getD, List.getElem?_append_right (Nat.le_refl _), Nat.sub_self]; exact f1
    · have e : g4 = k := by simpa [Value.ownBlock] using hk
      rw [← e]; exact ⟨.inr (.inl rfl), hg4⟩
  · rw [hsz]
    rcases hk with hk | hk | ⟨hp, p, e, rfl⟩
    · exact Nat.lt_of_lt_of_le (h.lt k hk) hg.size
    · rw [hk]; exact hg4l
    · exact Nat.lt_of_lt_of_le (hbt.lt hp e) hg.size
  · refine ⟨hg.os.trans hK.os, hg.tape.trans hK.tape, hg.output.trans hK.output, by rw [hsz]; exact Nat.le_trans hK.size hg.size, fun k hk hno => ?_⟩
    rw [heap_setCell_other w6 ⟨gl, 1, none⟩ k _ (by intro e; rw [e] at hno; exact hno h.og), hg.block k (Nat.lt_of_lt_of_le hk hK.size) (fun e => hno (h.tl.ob k e.symm).1)]
    exact hK.block k hk hno
  · rw [hsz]
    rcases hk with hk | hk | ⟨hp, p, e, rfl⟩
    · exact .inl hk
    · rcases hl with h1 | h1
      · left; rw [hk]; exact (h.tl.ob g4 h1).1
      · right; rw [hk]; exact ⟨by have := hK.size; omega, hg4l⟩
    · exact .inr ⟨(hfar hp p e).2, Nat.lt_of_lt_of_le (hbt.lt hp e) hg.size⟩
end Go.Proofs.YtipakjenggeflaaGreatDoor
namespace Go.Proofs.YtipakjenggeflaaGreatDoor
open Go.RowKit
set_option linter.unusedVariables false

set_option maxRecDepth 100000 in
theorem LgRW.below {w w' : World} {gl : Nat} {own : Nat → Prop} {gd : Nat} {L : LS} {vt : Value} (h : LgRW w gl own gd L vt) (hb : Below w.heap.size w w') : LgRW w' gl own gd L vt := h.keep (fun k hk => hb.block k (h.lt k hk)) hb.size
set_option maxRecDepth 100000 in
theorem ptE_seq {n : Nat} {k : Nat} : ptE ((k : Int) + 1) n = if 16384 < n then 5 else 0 := by unfold ptE; rw [if_neg (by omega)]
set_option maxRecDepth 100000 in
set_option maxHeartbeats 1000000 in
theorem append_big (gl gd : Nat) (ownD ownL : Nat → Prop) (s : DS) (L : LS) (a : Option Addr) (len cap : Nat) (b : List Int) (w : World) (hD : Dsk w gd ownD s) (hLg : LgW w gl ownL gd L) (hbt : Bts w a len cap b) (hbig : 16384 < len) :
    Calls Tryz.prog 233 #[.pointer (some ⟨gl, 0, none⟩), .slice a len cap] w fun e w' => e = .returned (.int .i64 5) ∧ Below w.heap.size w w' := by
  obtain ⟨vt, hR⟩ := hLg
  obtain ⟨av, cv, rfl, _⟩ := hR.tl.form
  have c1 := hR.c1
  have H0 : Bx _ := ⟨hR.c0⟩
  have HR : Bx (LgRW w gl ownL gd L (.slice av L.T.length cv)) := ⟨hR⟩
  have hTl : L.T.length ≤ 4096 := Nat.le_trans hR.tn hR.n2
  have hn2 := hR.n2
  have hbl := hbt.len_eq
  have HBT : Bx (Bts w a len cap b) := ⟨hbt⟩
  have HDK : Bx (Dsk w gd ownD s) := ⟨hD⟩
  have hdn2 := hD.ok.n2
  clear hR hbt hD
  go_enter Tryz.func233, Tryz.ntmps233
  go_wp2_with fail
  refine (lmade_yes gl gd _ H0.out).mono ?_
  rintro e w' ⟨rfl, rfl⟩
  go_wp2_with fail
  refine (number_anyW _ _ _ _ hTl).mono ?_
  rintro e w' ⟨rfl, rfl⟩
  go_wp2_with fail
  refine (put8_any ((L.T.length : Int) + 1) a len cap b _ (by omega) (by omega) HBT.out).mono ?_
  rintro e w3 ⟨v3, rfl, hown3, hb3⟩
  clear c1 H0
  rw [ptE_seq, hbl]
  rw [if_pos hbig]
  clear hown3
  go_wp2
  go_ret
  exact ⟨rfl, hb3⟩
set_option maxRecDepth 100000 in
set_option maxHeartbeats 1000000 in
theorem append_full (gl gd : Nat) (ownD ownL : Nat → Prop) (s : DS) (L : LS) (a : Option Addr) (len cap : Nat) (b : List Int) (w : World) (hD : Dsk w gd ownD s) (hLg : LgW w gl ownL gd L) (hbt : Bts w a len cap b) (hbig : ¬ 16384 < len) (hfull : s.F.length < L.next + ns (20 + len)) :
    Calls Tryz.prog 233 #[.pointer (some ⟨gl, 0, none⟩), .slice a len cap] w fun e w' => e = .returned (.int .i64 11) ∧ Below w.heap.size w w' := by
  obtain ⟨vt, hR⟩ := hLg
  obtain ⟨av, cv, rfl, _⟩ := hR.tl.form
  have c1 := hR.c1
  have H0 : Bx _ := ⟨hR.c0⟩
  have HR : Bx (LgRW w gl ownL gd L (.slice av L.T.length cv)) := ⟨hR⟩
  have hTl : L.T.length ≤ 4096 := Nat.le_trans hR.tn hR.n2
  have hn2 := hR.n2
  have hbl := hbt.len_eq
  have HBT : Bx (Bts w a len cap b) := ⟨hbt⟩
  have HDK : Bx (Dsk w gd ownD s) := ⟨hD⟩
  have hdn2 := hD.ok.n2
  clear hR hbt hD
  go_enter Tryz.func233, Tryz.ntmps233
  go_wp2_with fail
  refine (lmade_yes gl gd _ H0.out).mono ?_
  rintro e w' ⟨rfl, rfl⟩
  go_wp2_with fail
  refine (number_anyW _ _ _ _ hTl).mono ?_
  rintro e w' ⟨rfl, rfl⟩
  go_wp2_with fail
  refine (put8_any ((L.T.length : Int) + 1) a len cap b _ (by omega) (by omega) HBT.out).mono ?_
  rintro e w3 ⟨v3, rfl, hown3, hb3⟩
  clear c1 H0
  rw [ptE_seq, hbl]
  rw [if_neg hbig]
  have hpl : ptL ((L.T.length : Int) + 1) b = frmL ((L.T.length : Int) + 1) b := ptL_ok (by rw [ptE_seq, hbl, if_neg hbig])
  rw [hpl, frmL_len, hbl] at hown3
  obtain ⟨a3, c3, rfl, hm3⟩ := Bts.of_owns hown3 (frmL_byt _ _ HBT.out.byt)
  have HM3 : Bx _ := ⟨hm3⟩
  have HO3 : Bx _ := ⟨hown3⟩
  have HB3 : Bx (Below w.heap.size w w3) := ⟨hb3⟩
  have hR3 := HR.out.below hb3
  have hk : w3.drew.cell? ⟨gl, 0, none⟩ = some (.pointer (some ⟨gd, 0, none⟩)) ∧ w3.drew.cell? ⟨gl, 2, none⟩ = some (.int .i64 (L.next : Int)) ∧ Dsk w3.drew gd ownD s := ⟨hR3.c0, hR3.c2, (HDK.out.below hb3).drewN 1⟩
  obtain ⟨fl, HFL⟩ : ∃ fl, Bx (fl = 20 + len) := ⟨_, ⟨rfl⟩⟩
  have hfl : fl ≤ 20000 := by rw [HFL.out]; omega
  rw [← HFL.out] at HM3 HO3 hm3 ⊢
  have hnsb : ns fl ≤ 1000 := by unfold ns; omega
  have hw1 : IntKind.i64.wrap ((L.next : Int) + ((ns fl : Nat) : Int)) = (L.next : Int) + ((ns fl : Nat) : Int) := IntWalk.i64_in _ (by omega)
  clear hown3 hm3 hb3 hR3 hpl
  replace HM3 : Bx (Bts w3.drew a3 fl c3 (frmL ((L.T.length : Int) + 1) b)) := ⟨HM3.out.drewN 1⟩
  replace HB3 : Bx (Below w.heap.size w w3.drew) := ⟨HB3.out.drew⟩
  rw [← HFL.out] at hfull
  have g1 : (s.F.length : Int) < (L.next : Int) + ((ns fl : Nat) : Int) := by omega
  go_wp2_with fail
  refine wp_region_held_drew (S := fun W => W.cell? ⟨gl, 0, none⟩ = some (.pointer (some ⟨gd, 0, none⟩)) ∧ W.cell? ⟨gl, 2, none⟩ = some (.int .i64 (L.next : Int)) ∧ Dsk W gd ownD s) (by kernel_rfl) hk (fun _ => ?_)
  generalize w3.drew = wd at hk HB3 ⊢
  refine wpAnyH_take (i := 0) (oi := ⟨some 24, .move (.tmp 0), 126, "wal.go:110", #[], none⟩) (v := ?vwap61) rfl (by kernel_rfl) (by kernel_rfl) (by kernel_rfl) (fun _ _ _ h => h) (Or.inl ⟨by rfl, ?ywap61⟩) hk ?rwap61
  case ywap61 => (intro w hSw; (try dsimp only at hSw); go_simp; first | done | with_reducible rfl)
  simp only [Act.put, List.setIfInBounds_toArray, List.set_cons_zero, List.set_cons_succ]
  refine wpAnyH_take (i := 1) (oi := ⟨some 25, .nilCheck (.tmp 24), 0, "wal.go:110", #[⟨0, .data⟩], none⟩) (v := ?vwap62) rfl (by kernel_rfl) (by kernel_rfl) (by kernel_rfl) (fun _ _ _ h => h) (Or.inl ⟨by rfl, ?ywap62⟩) hk ?rwap62
  case ywap62 => (intro w hSw; (try dsimp only at hSw); go_simp; first | done | with_reducible rfl)
  simp only [Act.put, List.setIfInBounds_toArray, List.set_cons_zero, List.set_cons_succ]
  refine wpAnyH_take (i := 2) (oi := ⟨some 26, .fieldAddr 207 (.tmp 25) 2, 0, "wal.go:110", #[⟨1, .data⟩], none⟩) (v := ?vwap63) rfl (by kernel_rfl) (by kernel_rfl) (by kernel_rfl) (fun _ _ _ h => h) (Or.inl ⟨by rfl, ?ywap63⟩) hk ?rwap63
  case ywap63 => (intro w hSw; (try dsimp only at hSw); go_simp; first | done | with_reducible rfl)
  simp only [Act.put, List.setIfInBounds_toArray, List.set_cons_zero, List.set_cons_succ]
  refine wpAnyH_take (i := 3) (oi := ⟨some 27, .load 3 (.tmp 26), 3, "wal.go:110", #[⟨2, .data⟩], none⟩) (v := ?vwap64) rfl (by kernel_rfl) (by kernel_rfl) (by kernel_rfl) (fun _ _ _ h => h) (Or.inl ⟨by rfl, ?ywap64⟩) hk ?rwap64
  case ywap64 => (intro w hSw; have hcw := hSw.2.1; clear hSw; go_simp; first | done | with_reducible rfl)
  simp only [Act.put, List.setIfInBounds_toArray, List.set_cons_zero, List.set_cons_succ]
  refine wpAnyH_take (i := 4) (oi := ⟨some 28, .move (.tmp 5), 34, "wal.go:110", #[], none⟩) (v := ?vwap65) rfl (by kernel_rfl) (by kernel_rfl) (by kernel_rfl) (fun _ _ _ h => h) (Or.inl ⟨by rfl, ?ywap65⟩) hk ?rwap65
  case ywap65 => (intro w hSw; (try dsimp only at hSw); go_simp; first | done | with_reducible rfl)
  simp only [Act.put, List.setIfInBounds_toArray, List.set_cons_zero, List.set_cons_succ]
  refine wpAnyH_take (i := 5) (oi := ⟨some 29, .call { callee := .builtin Builtin.len, args := #[.tmp 28], argTypes := #[34] }, 3, "wal.go:110", #[⟨4, .data⟩], none⟩) (v := ?vwap66) rfl (by kernel_rfl) (by kernel_rfl) (by kernel_rfl) (fun _ _ _ h => h) (Or.inl ⟨by rfl, ?ywap66⟩) hk ?rwap66
  case ywap66 => (intro w hSw; (try dsimp only at hSw); go_simp; first | done | with_reducible rfl)
  simp only [Act.put, List.setIfInBounds_toArray, List.set_cons_zero, List.set_cons_succ]
  refine wpAnyH_take (i := 8) (oi := ⟨some 32, .move (.tmp 0), 126, "wal.go:110", #[], none⟩) (v := ?vwap67) rfl (by kernel_rfl) (by kernel_rfl) (by kernel_rfl) (fun _ _ _ h => h) (Or.inl ⟨by rfl, ?ywap67⟩) hk ?rwap67
  case ywap67 => (intro w hSw; (try dsimp only at hSw); go_simp; first | done | with_reducible rfl)
  simp only [Act.put, List.setIfInBounds_toArray, List.set_cons_zero, List.set_cons_succ]
  refine wpAnyH_take (i := 9) (oi := ⟨some 33, .nilCheck (.tmp 32), 0, "wal.go:110", #[⟨8, .data⟩], none⟩) (v := ?vwap68) rfl (by kernel_rfl) (by kernel_rfl) (by kernel_rfl) (fun _ _ _ h => h) (Or.inl ⟨by rfl, ?ywap68⟩) hk ?rwap68
  case ywap68 => (intro w hSw; (try dsimp only at hSw); go_simp; first | done | with_reducible rfl)
  simp only [Act.put, List.setIfInBounds_toArray, List.set_cons_zero, List.set_cons_succ]
  refine wpAnyH_take (i := 10) (oi := ⟨some 34, .fieldAddr 207 (.tmp 33) 0, 0, "wal.go:110", #[⟨9, .data⟩], none⟩) (v := ?vwap69) rfl (by kernel_rfl) (by kernel_rfl) (by kernel_rfl) (fun _ _ _ h => h) (Or.inl ⟨by rfl, ?ywap69⟩) hk ?rwap69
  case ywap69 => (intro w hSw; (try dsimp only at hSw); go_simp; first | done | with_reducible rfl)
  simp only [Act.put, List.setIfInBounds_toArray, List.set_cons_zero, List.set_cons_succ]
  refine wpAnyH_take (i := 11) (oi := ⟨some 35, .load 27 (.tmp 34), 27, "wal.go:110", #[⟨10, .data⟩], none⟩) (v := ?vwap610) rfl (by kernel_rfl) (by kernel_rfl) (by kernel_rfl) (fun _ _ _ h => h) (Or.inl ⟨by rfl, ?ywap610⟩) hk ?rwap610
  case ywap610 => (intro w hSw; have hcw := hSw.1; clear hSw; go_simp; first | done | with_reducible rfl)
  simp only [Act.put, List.setIfInBounds_toArray, List.set_cons_zero, List.set_cons_succ]
  refine wpAnyH_ready (rs := [6]) (by decide +kernel) (by simp) ?_
  refine AllReadyH.cons (o := ⟨some 30, .call { callee := .value (.func 227), args := #[.tmp 29], argTypes := #[3] }, 3, "wal.go:110", #[⟨5, .data⟩], none⟩) rfl (fun K hK => ?_) AllReadyH.nil
  go_simp
  refine (wsec_any fl _ (by omega)).mono ?_
  rintro e1 w8 ⟨rfl, rfl⟩
  refine hK.out _ _ hk (fun _ => ?_)
  clear hK K
  try simp only [Act.put, List.setIfInBounds_toArray, List.set_cons_zero, List.set_cons_succ]
  refine wpAnyH_take (i := 7) (oi := ⟨some 31, .binOp .add 3 (.tmp 27) (.tmp 30) 3, 3, "wal.go:110", #[⟨3, .data⟩, ⟨6, .data⟩], none⟩) (v := ?vwap611) rfl (by kernel_rfl) (by kernel_rfl) (by kernel_rfl) (fun _ _ _ h => h) (Or.inl ⟨by rfl, ?ywap611⟩) hk ?rwap611
  case ywap611 => (intro w hSw; (try dsimp only at hSw); go_simp; first | done | with_reducible rfl)
  simp only [Act.put, List.setIfInBounds_toArray, List.set_cons_zero, List.set_cons_succ]
  refine wpAnyH_ready (rs := [12]) (by decide +kernel) (by simp) ?_
  refine AllReadyH.cons (o := ⟨some 36, .call { callee := .value (.func 130), args := #[.tmp 35], argTypes := #[27] }, 3, "wal.go:110", #[⟨11, .data⟩, ⟨6, .chain⟩], none⟩) rfl (fun K hK => ?_) AllReadyH.nil
  go_simp
  refine (sectors_any gd ownD s _ hk.2.2).mono ?_
  rintro e1 w8 ⟨rfl, rfl⟩
  refine hK.out _ _ hk (fun _ => ?_)
  clear hK K
  try simp only [Act.put, List.setIfInBounds_toArray, List.set_cons_zero, List.set_cons_succ]
  refine wpAnyH_take (i := 13) (oi := ⟨some 37, .binOp .gtr 3 (.tmp 31) (.tmp 36) 3, 4, "wal.go:110", #[⟨7, .data⟩, ⟨12, .data⟩], none⟩) (v := ?vwap612) rfl (by kernel_rfl) (by kernel_rfl) (by kernel_rfl) (fun _ _ _ h => h) (Or.inl ⟨by rfl, ?ywap612⟩) hk ?rwap612
  case ywap612 => (intro w hSw; (try dsimp only at hSw); go_simp; first | done | with_reducible rfl)
  simp only [Act.put, List.setIfInBounds_toArray, List.set_cons_zero, List.set_cons_succ]
  refine wpAnyH_done (by decide +kernel) ?_ _
  clear hk
  go_wp2
  go_ret
  exact ⟨rfl, HB3.out⟩
set_option maxRecDepth 100000 in
set_option maxHeartbeats 1000000 in
theorem append_failed (gl gd : Nat) (ownD ownL : Nat → Prop) (s : DS) (L : LS) (a : Option Addr) (len cap : Nat) (b : List Int) (w : World) (hD : Dsk w gd ownD s) (hLg : LgW w gl ownL gd L) (hbt : Bts w a len cap b) (hbig : ¬ 16384 < len) (hfull : ¬ s.F.length < L.next + ns (20 + len)) (hfd : L.failed = true) :
    Calls Tryz.prog 233 #[.pointer (some ⟨gl, 0, none⟩), .slice a len cap] w fun e w' => e = .returned (.int .i64 14) ∧ Below w.heap.size w w' := by
  obtain ⟨vt, hR⟩ := hLg
  obtain ⟨av, cv, rfl, _⟩ := hR.tl.form
  have c1 := hR.c1
  have H0 : Bx _ := ⟨hR.c0⟩
  have HR : Bx (LgRW w gl ownL gd L (.slice av L.T.length cv)) := ⟨hR⟩
  have hTl : L.T.length ≤ 4096 := Nat.le_trans hR.tn hR.n2
  have hn2 := hR.n2
  have hbl := hbt.len_eq
  have HBT : Bx (Bts w a len cap b) := ⟨hbt⟩
  have HDK : Bx (Dsk w gd ownD s) := ⟨hD⟩
  have hdn2 := hD.ok.n2
  clear hR hbt hD
  go_enter Tryz.func233, Tryz.ntmps233
  go_wp2_with fail
  refine (lmade_yes gl gd _ H0.out).mono ?_
  rintro e w' ⟨rfl, rfl⟩
  go_wp2_with fail
  refine (number_anyW _ _ _ _ hTl).mono ?_
  rintro e w' ⟨rfl, rfl⟩
  go_wp2_with fail
  refine (put8_any ((L.T.length : Int) + 1) a len cap b _ (by omega) (by omega) HBT.out).mono ?_
  rintro e w3 ⟨v3, rfl, hown3, hb3⟩
  clear c1 H0
  rw [ptE_seq, hbl]
  rw [if_neg hbig]
  have hpl : ptL ((L.T.length : Int) + 1) b = frmL ((L.T.length : Int) + 1) b := ptL_ok (by rw [ptE_seq, hbl, if_neg hbig])
  rw [hpl, frmL_len, hbl] at hown3
  obtain ⟨a3, c3, rfl, hm3⟩ := Bts.of_owns hown3 (frmL_byt _ _ HBT.out.byt)
  have HM3 : Bx _ := ⟨hm3⟩
  have HO3 : Bx _ := ⟨hown3⟩
  have HB3 : Bx (Below w.heap.size w w3) := ⟨hb3⟩
  have hR3 := HR.out.below hb3
  have hk : w3.drew.cell? ⟨gl, 0, none⟩ = some (.pointer (some ⟨gd, 0, none⟩)) ∧ w3.drew.cell? ⟨gl, 2, none⟩ = some (.int .i64 (L.next : Int)) ∧ Dsk w3.drew gd ownD s := ⟨hR3.c0, hR3.c2, (HDK.out.below hb3).drewN 1⟩
  obtain ⟨fl, HFL⟩ : ∃ fl, Bx (fl = 20 + len) := ⟨_, ⟨rfl⟩⟩
  have hfl : fl ≤ 20000 := by rw [HFL.out]; omega
  rw [← HFL.out] at HM3 HO3 hm3 ⊢
  have hnsb : ns fl ≤ 1000 := by unfold ns; omega
  have hw1 : IntKind.i64.wrap ((L.next : Int) + ((ns fl : Nat) : Int)) = (L.next : Int) + ((ns fl : Nat) : Int) := IntWalk.i64_in _ (by omega)
  clear hown3 hm3 hb3 hR3 hpl
  replace HM3 : Bx (Bts w3.drew a3 fl c3 (frmL ((L.T.length : Int) + 1) b)) := ⟨HM3.out.drewN 1⟩
  replace HB3 : Bx (Below w.heap.size w w3.drew) := ⟨HB3.out.drew⟩
  rw [← HFL.out] at hfull
  have g1 : ¬ (s.F.length : Int) < (L.next : Int) + ((ns fl : Nat) : Int) := by omega
  go_wp2_with fail
  refine wp_region_held_drew (S := fun W => W.cell? ⟨gl, 0, none⟩ = some (.pointer (some ⟨gd, 0, none⟩)) ∧ W.cell? ⟨gl, 2, none⟩ = some (.int .i64 (L.next : Int)) ∧ Dsk W gd ownD s) (by kernel_rfl) hk (fun _ => ?_)
  generalize w3.drew = wd at hk HB3 ⊢
  refine wpAnyH_take (i := 0) (oi := ⟨some 24, .move (.tmp 0), 126, "wal.go:110", #[], none⟩) (v := ?vwap61) rfl (by kernel_rfl) (by kernel_rfl) (by kernel_rfl) (fun _ _ _ h => h) (Or.inl ⟨by rfl, ?ywap61⟩) hk ?rwap61
  case ywap61 => (intro w hSw; (try dsimp only at hSw); go_simp; first | done | with_reducible rfl)
  simp only [Act.put, List.setIfInBounds_toArray, List.set_cons_zero, List.set_cons_succ]
  refine wpAnyH_take (i := 1) (oi := ⟨some 25, .nilCheck (.tmp 24), 0, "wal.go:110", #[⟨0, .data⟩], none⟩) (v := ?vwap62) rfl (by kernel_rfl) (by kernel_rfl) (by kernel_rfl) (fun _ _ _ h => h) (Or.inl ⟨by rfl, ?ywap62⟩) hk ?rwap62
  case ywap62 => (intro w hSw; (try dsimp only at hSw); go_simp; first | done | with_reducible rfl)
  simp only [Act.put, List.setIfInBounds_toArray, List.set_cons_zero, List.set_cons_succ]
  refine wpAnyH_take (i := 2) (oi := ⟨some 26, .fieldAddr 207 (.tmp 25) 2, 0, "wal.go:110", #[⟨1, .data⟩], none⟩) (v := ?vwap63) rfl (by kernel_rfl) (by kernel_rfl) (by kernel_rfl) (fun _ _ _ h => h) (Or.inl ⟨by rfl, ?ywap63⟩) hk ?rwap63
  case ywap63 => (intro w hSw; (try dsimp only at hSw); go_simp; first | done | with_reducible rfl)
  simp only [Act.put, List.setIfInBounds_toArray, List.set_cons_zero, List.set_cons_succ]
  refine wpAnyH_take (i := 3) (oi := ⟨some 27, .load 3 (.tmp 26), 3, "wal.go:110", #[⟨2, .data⟩], none⟩) (v := ?vwap64) rfl (by kernel_rfl) (by kernel_rfl) (by kernel_rfl) (fun _ _ _ h => h) (Or.inl ⟨by rfl, ?ywap64⟩) hk ?rwap64
  case ywap64 => (intro w hSw; have hcw := hSw.2.1; clear hSw; go_simp; first | done | with_reducible rfl)
  simp only [Act.put, List.setIfInBounds_toArray, List.set_cons_zero, List.set_cons_succ]
  refine wpAnyH_take (i := 4) (oi := ⟨some 28, .move (.tmp 5), 34, "wal.go:110", #[], none⟩) (v := ?vwap65) rfl (by kernel_rfl) (by kernel_rfl) (by kernel_rfl) (fun _ _ _ h => h) (Or.inl ⟨by rfl, ?ywap65⟩) hk ?rwap65
  case ywap65 => (intro w hSw; (try dsimp only at hSw); go_simp; first | done | with_reducible rfl)
  simp only [Act.put, List.setIfInBounds_toArray, List.set_cons_zero, List.set_cons_succ]
  refine wpAnyH_take (i := 5) (oi := ⟨some 29, .call { callee := .builtin Builtin.len, args := #[.tmp 28], argTypes := #[34] }, 3, "wal.go:110", #[⟨4, .data⟩], none⟩) (v := ?vwap66) rfl (by kernel_rfl) (by kernel_rfl) (by kernel_rfl) (fun _ _ _ h => h) (Or.inl ⟨by rfl, ?ywap66⟩) hk ?rwap66
  case ywap66 => (intro w hSw; (try dsimp only at hSw); go_simp; first | done | with_reducible rfl)
  simp only [Act.put, List.setIfInBounds_toArray, List.set_cons_zero, List.set_cons_succ]
  refine wpAnyH_take (i := 8) (oi := ⟨some 32, .move (.tmp 0), 126, "wal.go:110", #[], none⟩) (v := ?vwap67) rfl (by kernel_rfl) (by kernel_rfl) (by kernel_rfl) (fun _ _ _ h => h) (Or.inl ⟨by rfl, ?ywap67⟩) hk ?rwap67
  case ywap67 => (intro w hSw; (try dsimp only at hSw); go_simp; first | done | with_reducible rfl)
  simp only [Act.put, List.setIfInBounds_toArray, List.set_cons_zero, List.set_cons_succ]
  refine wpAnyH_take (i := 9) (oi := ⟨some 33, .nilCheck (.tmp 32), 0, "wal.go:110", #[⟨8, .data⟩], none⟩) (v := ?vwap68) rfl (by kernel_rfl) (by kernel_rfl) (by kernel_rfl) (fun _ _ _ h => h) (Or.inl ⟨by rfl, ?ywap68⟩) hk ?rwap68
  case ywap68 => (intro w hSw; (try dsimp only at hSw); go_simp; first | done | with_reducible rfl)
  simp only [Act.put, List.setIfInBounds_toArray, List.set_cons_zero, List.set_cons_succ]
  refine wpAnyH_take (i := 10) (oi := ⟨some 34, .fieldAddr 207 (.tmp 33) 0, 0, "wal.go:110", #[⟨9, .data⟩], none⟩) (v := ?vwap69) rfl (by kernel_rfl) (by kernel_rfl) (by kernel_rfl) (fun _ _ _ h => h) (Or.inl ⟨by rfl, ?ywap69⟩) hk ?rwap69
  case ywap69 => (intro w hSw; (try dsimp only at hSw); go_simp; first | done | with_reducible rfl)
  simp only [Act.put, List.setIfInBounds_toArray, List.set_cons_zero, List.set_cons_succ]
  refine wpAnyH_take (i := 11) (oi := ⟨some 35, .load 27 (.tmp 34), 27, "wal.go:110", #[⟨10, .data⟩], none⟩) (v := ?vwap610) rfl (by kernel_rfl) (by kernel_rfl) (by kernel_rfl) (fun _ _ _ h => h) (Or.inl ⟨by rfl, ?ywap610⟩) hk ?rwap610
  case ywap610 => (intro w hSw; have hcw := hSw.1; clear hSw; go_simp; first | done | with_reducible rfl)
  simp only [Act.put, List.setIfInBounds_toArray, List.set_cons_zero, List.set_cons_succ]
  refine wpAnyH_ready (rs := [6]) (by decide +kernel) (by simp) ?_
  refine AllReadyH.cons (o := ⟨some 30, .call { callee := .value (.func 227), args := #[.tmp 29], argTypes := #[3] }, 3, "wal.go:110", #[⟨5, .data⟩], none⟩) rfl (fun K hK => ?_) AllReadyH.nil
  go_simp
  refine (wsec_any fl _ (by omega)).mono ?_
  rintro e1 w8 ⟨rfl, rfl⟩
  refine hK.out _ _ hk (fun _ => ?_)
  clear hK K
  try simp only [Act.put, List.setIfInBounds_toArray, List.set_cons_zero, List.set_cons_succ]
  refine wpAnyH_take (i := 7) (oi := ⟨some 31, .binOp .add 3 (.tmp 27) (.tmp 30) 3, 3, "wal.go:110", #[⟨3, .data⟩, ⟨6, .data⟩], none⟩) (v := ?vwap611) rfl (by kernel_rfl) (by kernel_rfl) (by kernel_rfl) (fun _ _ _ h => h) (Or.inl ⟨by rfl, ?ywap611⟩) hk ?rwap611
  case ywap611 => (intro w hSw; (try dsimp only at hSw); go_simp; first | done | with_reducible rfl)
  simp only [Act.put, List.setIfInBounds_toArray, List.set_cons_zero, List.set_cons_succ]
  refine wpAnyH_ready (rs := [12]) (by decide +kernel) (by simp) ?_
  refine AllReadyH.cons (o := ⟨some 36, .call { callee := .value (.func 130), args := #[.tmp 35], argTypes := #[27] }, 3, "wal.go:110", #[⟨11, .data⟩, ⟨6, .chain⟩], none⟩) rfl (fun K hK => ?_) AllReadyH.nil
  go_simp
  refine (sectors_any gd ownD s _ hk.2.2).mono ?_
  rintro e1 w8 ⟨rfl, rfl⟩
  refine hK.out _ _ hk (fun _ => ?_)
  clear hK K
  try simp only [Act.put, List.setIfInBounds_toArray, List.set_cons_zero, List.set_cons_succ]
  refine wpAnyH_take (i := 13) (oi := ⟨some 37, .binOp .gtr 3 (.tmp 31) (.tmp 36) 3, 4, "wal.go:110", #[⟨7, .data⟩, ⟨12, .data⟩], none⟩) (v := ?vwap612) rfl (by kernel_rfl) (by kernel_rfl) (by kernel_rfl) (fun _ _ _ h => h) (Or.inl ⟨by rfl, ?ywap612⟩) hk ?rwap612
  case ywap612 => (intro w hSw; (try dsimp only at hSw); go_simp; first | done | with_reducible rfl)
  simp only [Act.put, List.setIfInBounds_toArray, List.set_cons_zero, List.set_cons_succ]
  refine wpAnyH_done (by decide +kernel) ?_ _
  clear hk
  have cf := (HR.out.below HB3.out).c3
  rw [hfd] at cf
  go_wp2
  go_ret
  exact ⟨rfl, HB3.out⟩
end Go.Proofs.YtipakjenggeflaaGreatDoor
namespace Go.Proofs.YtipakjenggeflaaGreatDoor
open Go.RowKit
set_option linter.unusedVariables false

/-- what Append leaves -/
def APP (s : DS) (L : LS) (b : List Int) (gl gd : Nat) (ownD ownL : Nat → Prop) (w w' : World) : Prop := ∃ ownD' ownL', Dsk w' gd ownD' (apS s L b) ∧ LgW w' gl ownL' gd (apL s L b) ∧ Did2 ownD ownL w w' ownD' ownL'
set_option maxRecDepth 100000 in
theorem APP.er {s : DS} {L : LS} {b : List Int} {gl gd : Nat} {ownD ownL own5 : Nat → Prop} {w w4 w5 w6 : World} {vt : Value} (hgo : L.go s b = true) (h0 : (L.wr s b).2 ≠ 0) (hd : ∀ k, ownL k → ¬ ownD k) (hlt : ∀ k, ownL k → k < w.heap.size) (hb : Below w.heap.size w w4) (hdid : Did ownD w4 w5 own5)
    (hD : Dsk w5 gd own5 (L.wr s b).1) (hR : LgRW w5 gl ownL gd L vt) (h6 : w6 = w5.setCell ⟨gl, 3, none⟩ (.bool true)) : APP s L b gl gd ownD ownL w w6 := by
  have hsz : w6.heap.size = w5.heap.size := by rw [h6]; simp [World.setCell]
  have hdj : ∀ k, ownL k → ¬ own5 k := fun k hk ho => by
    rcases hdid.new k ho with h1 | h1
    · exact hd k hk h1
    · have := hlt k hk; have := hb.size; omega
  have hk56 : Kept ownL w5 w6 := by rw [h6]; exact (Kept.refl _ _).setCell (.inl hR.og) 3 _
  refine ⟨own5, ownL, ?_, ?_, ?_, ?_, fun k hk => .inl hk, hdj⟩
  · rw [(ap_yes hgo).2]; exact hD.kept hk56 (fun k hk ho => hdj k ho hk)
  · rw [ap_er hgo h0]; exact ⟨vt, by rw [h6]; exact hR.setFailed⟩
  · have h1 : Kept (fun k => ownD k ∨ ownL k) w w4 := Kept.of_below hb
    have h2 := h1.trans hdid.kept (fun k hk => .inl (.inl hk))
    exact h2.trans hk56 (fun k hk => .inl (.inr hk))
  · intro k hk
    rcases hdid.new k hk with h1 | h1
    · exact .inl h1
    · exact .inr ⟨by have := hb.size; omega, by rw [hsz]; exact h1.2⟩
set_option maxRecDepth 100000 in
theorem APP.ok {s : DS} {L : LS} {b : List Int} {gl gd : Nat} {ownD ownL own5 own2 : Nat → Prop} {w w4 w5 w6 w7 : World} {vt : Value} (hgo : L.go s b = true) (h0 : (L.wr s b).2 = 0) (hd : ∀ k, ownL k → ¬ ownD k) (hlt : ∀ k, ownL k → k < w.heap.size) (hb : Below w.heap.size w w4) (hdid : Did ownD w4 w5 own5)
    (hD : Dsk w5 gd own5 (L.wr s b).1) (hk5 : Kept ownL w5 w6) (hn : ∀ k, own2 k → ownL k ∨ (w5.heap.size ≤ k ∧ k < w6.heap.size)) (hk6 : Kept own2 w6 w7) (hR : LgRW w7 gl own2 gd ⟨L.T ++ [b], L.next + ns (20 + b.length), L.failed⟩ vt) : APP s L b gl gd ownD ownL w w7 := by
  have hdj : ∀ k, own2 k → ¬ own5 k := fun k hk ho => by
    rcases hn k hk with h2 | h2
    · rcases hdid.new k ho with h1 | h1
      · exact hd k h2 h1
      · have := hlt k h2; have := hb.size; omega
    · have := hD.lt k ho; omega
  have hs5 := hdid.kept.size
  have hs6 := hk5.size
  have hs7 := hk6.size
  have hk57 : Kept ownL w5 w7 := hk5.trans hk6 (fun k hk => by rcases hn k hk with h | h; exact .inl h; exact .inr h.1)
  refine ⟨own5, own2, ?_, ?_, ?_, ?_, ?_, hdj⟩
  · rw [(ap_yes hgo).2]
    have hlL : ∀ k, own5 k → ¬ ownL k := fun k hk ho => by
      rcases hdid.new k hk with h1 | h1
      · exact hd k ho h1
      · have := hlt k ho; have := hb.size; omega
    exact hD.kept hk57 hlL
  · rw [ap_ok hgo h0]; exact ⟨vt, hR⟩
  · have h1 : Kept (fun k => ownD k ∨ ownL k) w w4 := Kept.of_below hb
    have h2 := h1.trans hdid.kept (fun k hk => .inl (.inl hk))
    exact h2.trans hk57 (fun k hk => .inl (.inr hk))
  · intro k hk
    rcases hdid.new k hk with h1 | h1
    · exact .inl h1
    · exact .inr ⟨by have := hb.size; omega, by omega⟩
  · intro k hk
    rcases hn k hk with h1 | h1
    · exact .inl h1
    · exact .inr ⟨by have := hb.size; omega, by omega⟩
set_option maxRecDepth 100000 in
set_option maxHeartbeats 2000000 in
theorem append_go (gl gd : Nat) (ownD ownL : Nat → Prop) (s : DS) (L : LS) (a : Option Addr) (len cap : Nat) (b : List Int) (w : World) (hD : Dsk w gd ownD s) (hLg : LgW w gl ownL gd L) (hbt : Bts w a len cap b) (hbig : ¬ 16384 < len) (hfull : ¬ s.F.length < L.next + ns (20 + len)) (hfd : L.failed = false)
    (hfar : 0 < len → ∀ p, a = some p → ¬ ownD p.block) (hdj : ∀ k, ownL k → ¬ ownD k) (hO : s.O.length ≤ 900000) :
    Calls Tryz.prog 233 #[.pointer (some ⟨gl, 0, none⟩), .slice a len cap] w fun e w' => e = .returned (.int .i64 (L.wr s b).2) ∧ APP s L b gl gd ownD ownL w w' := by
  have HGO : Bx (L.go s b = true) := ⟨LS.go_iff.2 ⟨by rw [hbt.len_eq]; omega, by rw [hbt.len_eq]; omega, hfd⟩⟩
  have HLLT : Bx (∀ k, ownL k → k < w.heap.size) := ⟨hLg.lt⟩
  have HDLT : Bx (∀ k, ownD k → k < w.heap.size) := ⟨hD.lt⟩
  obtain ⟨vt, hR⟩ := hLg
  obtain ⟨av, cv, rfl, _⟩ := hR.tl.form
  have c1 := hR.c1
  have H0 : Bx _ := ⟨hR.c0⟩
  have HR : Bx (LgRW w gl ownL gd L (.slice av L.T.length cv)) := ⟨hR⟩
  have hTl : L.T.length ≤ 4096 := Nat.le_trans hR.tn hR.n2
  have hn2 := hR.n2
  have hbl := hbt.len_eq
  have HBT : Bx (Bts w a len cap b) := ⟨hbt⟩
  have HDK : Bx (Dsk w gd ownD s) := ⟨hD⟩
  have hdn2 := hD.ok.n2
  clear hR hbt hD
  go_enter Tryz.func233, Tryz.ntmps233
  go_wp2_with fail
  refine (lmade_yes gl gd _ H0.out).mono ?_
  rintro e w' ⟨rfl, rfl⟩
  go_wp2_with fail
  refine (number_anyW _ _ _ _ hTl).mono ?_
  rintro e w' ⟨rfl, rfl⟩
  go_wp2_with fail
  refine (put8_any ((L.T.length : Int) + 1) a len cap b _ (by omega) (by omega) HBT.out).mono ?_
  rintro e w3 ⟨v3, rfl, hown3, hb3⟩
  clear c1 H0
  rw [ptE_seq, hbl]
  rw [if_neg hbig]
  have hpl : ptL ((L.T.length : Int) + 1) b = frmL ((L.T.length : Int) + 1) b := ptL_ok (by rw [ptE_seq, hbl, if_neg hbig])
  rw [hpl, frmL_len, hbl] at hown3
  obtain ⟨a3, c3, rfl, hm3⟩ := Bts.of_owns hown3 (frmL_byt _ _ HBT.out.byt)
  have HM3 : Bx _ := ⟨hm3⟩
  have HO3 : Bx _ := ⟨hown3⟩
  have HB3 : Bx (Below w.heap.size w w3) := ⟨hb3⟩
  have hR3 := HR.out.below hb3
  have hk : w3.drew.cell? ⟨gl, 0, none⟩ = some (.pointer (some ⟨gd, 0, none⟩)) ∧ w3.drew.cell? ⟨gl, 2, none⟩ = some (.int .i64 (L.next : Int)) ∧ Dsk w3.drew gd ownD s := ⟨hR3.c0, hR3.c2, (HDK.out.below hb3).drewN 1⟩
  obtain ⟨fl, HFL⟩ : ∃ fl, Bx (fl = 20 + len) := ⟨_, ⟨rfl⟩⟩
  have hfl : fl ≤ 20000 := by rw [HFL.out]; omega
  rw [← HFL.out] at HM3 HO3 hm3 ⊢
  have hnsb : ns fl ≤ 1000 := by unfold ns; omega
  have hw1 : IntKind.i64.wrap ((L.next : Int) + ((ns fl : Nat) : Int)) = (L.next : Int) + ((ns fl : Nat) : Int) := IntWalk.i64_in _ (by omega)
  clear hown3 hm3 hb3 hR3 hpl
  replace HM3 : Bx (Bts w3.drew a3 fl c3 (frmL ((L.T.length : Int) + 1) b)) := ⟨HM3.out.drewN 1⟩
  replace HB3 : Bx (Below w.heap.size w w3.drew) := ⟨HB3.out.drew⟩
  rw [← HFL.out] at hfull
  have g1 : ¬ (s.F.length : Int) < (L.next : Int) + ((ns fl : Nat) : Int) := by omega
  have HRD : Bx (LgRW w3.drew gl ownL gd L (.slice av L.T.length cv)) := ⟨HR.out.below HB3.out⟩
  have HO3' : Bx (∀ p, a3 = some p → w.heap.size ≤ p.block) := ⟨fun p e => (own_ge HO3.out p e).1⟩
  clear HO3
  go_wp2_with fail
  refine wp_region_held_drew (S := fun W => W.cell? ⟨gl, 0, none⟩ = some (.pointer (some ⟨gd, 0, none⟩)) ∧ W.cell? ⟨gl, 2, none⟩ = some (.int .i64 (L.next : Int)) ∧ Dsk W gd ownD s) (by kernel_rfl) hk (fun _ => ?_)
  generalize w3.drew = wd at hk HB3 HM3 HRD ⊢
  refine wpAnyH_take (i := 0) (oi := ⟨some 24, .move (.tmp 0), 126, "wal.go:110", #[], none⟩) (v := ?vwap6b1) rfl (by kernel_rfl) (by kernel_rfl) (by kernel_rfl) (fun _ _ _ h => h) (Or.inl ⟨by rfl, ?ywap6b1⟩) hk ?rwap6b1
  case ywap6b1 => (intro w hSw; (try dsimp only at hSw); go_simp; first | done | with_reducible rfl)
  simp only [Act.put, List.setIfInBounds_toArray, List.set_cons_zero, List.set_cons_succ]
  refine wpAnyH_take (i := 1) (oi := ⟨some 25, .nilCheck (.tmp 24), 0, "wal.go:110", #[⟨0, .data⟩], none⟩) (v := ?vwap6b2) rfl (by kernel_rfl) (by kernel_rfl) (by kernel_rfl) (fun _ _ _ h => h) (Or.inl ⟨by rfl, ?ywap6b2⟩) hk ?rwap6b2
  case ywap6b2 => (intro w hSw; (try dsimp only at hSw); go_simp; first | done | with_reducible rfl)
  simp only [Act.put, List.setIfInBounds_toArray, List.set_cons_zero, List.set_cons_succ]
  refine wpAnyH_take (i := 2) (oi := ⟨some 26, .fieldAddr 207 (.tmp 25) 2, 0, "wal.go:110", #[⟨1, .data⟩], none⟩) (v := ?vwap6b3) rfl (by kernel_rfl) (by kernel_rfl) (by kernel_rfl) (fun _ _ _ h => h) (Or.inl ⟨by rfl, ?ywap6b3⟩) hk ?rwap6b3
  case ywap6b3 => (intro w hSw; (try dsimp only at hSw); go_simp; first | done | with_reducible rfl)
  simp only [Act.put, List.setIfInBounds_toArray, List.set_cons_zero, List.set_cons_succ]
  refine wpAnyH_take (i := 3) (oi := ⟨some 27, .load 3 (.tmp 26), 3, "wal.go:110", #[⟨2, .data⟩], none⟩) (v := ?vwap6b4) rfl (by kernel_rfl) (by kernel_rfl) (by kernel_rfl) (fun _ _ _ h => h) (Or.inl ⟨by rfl, ?ywap6b4⟩) hk ?rwap6b4
  case ywap6b4 => (intro w hSw; have hcw := hSw.2.1; clear hSw; go_simp; first | done | with_reducible rfl)
  simp only [Act.put, List.setIfInBounds_toArray, List.set_cons_zero, List.set_cons_succ]
  refine wpAnyH_take (i := 4) (oi := ⟨some 28, .move (.tmp 5), 34, "wal.go:110", #[], none⟩) (v := ?vwap6b5) rfl (by kernel_rfl) (by kernel_rfl) (by kernel_rfl) (fun _ _ _ h => h) (Or.inl ⟨by rfl, ?ywap6b5⟩) hk ?rwap6b5
  case ywap6b5 => (intro w hSw; (try dsimp only at hSw); go_simp; first | done | with_reducible rfl)
  simp only [Act.put, List.setIfInBounds_toArray, List.set_cons_zero, List.set_cons_succ]
  refine wpAnyH_take (i := 5) (oi := ⟨some 29, .call { callee := .builtin Builtin.len, args := #[.tmp 28], argTypes := #[34] }, 3, "wal.go:110", #[⟨4, .data⟩], none⟩) (v := ?vwap6b6) rfl (by kernel_rfl) (by kernel_rfl) (by kernel_rfl) (fun _ _ _ h => h) (Or.inl ⟨by rfl, ?ywap6b6⟩) hk ?rwap6b6
  case ywap6b6 => (intro w hSw; (try dsimp only at hSw); go_simp; first | done | with_reducible rfl)
  simp only [Act.put, List.setIfInBounds_toArray, List.set_cons_zero, List.set_cons_succ]
  refine wpAnyH_take (i := 8) (oi := ⟨some 32, .move (.tmp 0), 126, "wal.go:110", #[], none⟩) (v := ?vwap6b7) rfl (by kernel_rfl) (by kernel_rfl) (by kernel_rfl) (fun _ _ _ h => h) (Or.inl ⟨by rfl, ?ywap6b7⟩) hk ?rwap6b7
  case ywap6b7 => (intro w hSw; (try dsimp only at hSw); go_simp; first | done | with_reducible rfl)
  simp only [Act.put, List.setIfInBounds_toArray, List.set_cons_zero, List.set_cons_succ]
  refine wpAnyH_take (i := 9) (oi := ⟨some 33, .nilCheck (.tmp 32), 0, "wal.go:110", #[⟨8, .data⟩], none⟩) (v := ?vwap6b8) rfl (by kernel_rfl) (by kernel_rfl) (by kernel_rfl) (fun _ _ _ h => h) (Or.inl ⟨by rfl, ?ywap6b8⟩) hk ?rwap6b8
  case ywap6b8 => (intro w hSw; (try dsimp only at hSw); go_simp; first | done | with_reducible rfl)
  simp only [Act.put, List.setIfInBounds_toArray, List.set_cons_zero, List.set_cons_succ]
  refine wpAnyH_take (i := 10) (oi := ⟨some 34, .fieldAddr 207 (.tmp 33) 0, 0, "wal.go:110", #[⟨9, .data⟩], none⟩) (v := ?vwap6b9) rfl (by kernel_rfl) (by kernel_rfl) (by kernel_rfl) (fun _ _ _ h => h) (Or.inl ⟨by rfl, ?ywap6b9⟩) hk ?rwap6b9
  case ywap6b9 => (intro w hSw; (try dsimp only at hSw); go_simp; first | done | with_reducible rfl)
  simp only [Act.put, List.setIfInBounds_toArray, List.set_cons_zero, List.set_cons_succ]
  refine wpAnyH_take (i := 11) (oi := ⟨some 35, .load 27 (.tmp 34), 27, "wal.go:110", #[⟨10, .data⟩], none⟩) (v := ?vwap6b10) rfl (by kernel_rfl) (by kernel_rfl) (by kernel_rfl) (fun _ _ _ h => h) (Or.inl ⟨by rfl, ?ywap6b10⟩) hk ?rwap6b10
  case ywap6b10 => (intro w hSw; have hcw := hSw.1; clear hSw; go_simp; first | done | with_reducible rfl)
  simp only [Act.put, List.setIfInBounds_toArray, List.set_cons_zero, List.set_cons_succ]
  refine wpAnyH_ready (rs := [6]) (by decide +kernel) (by simp) ?_
  refine AllReadyH.cons (o := ⟨some 30, .call { callee := .value (.func 227), args := #[.tmp 29], argTypes := #[3] }, 3, "wal.go:110", #[⟨5, .data⟩], none⟩) rfl (fun K hK => ?_) AllReadyH.nil
  go_simp
  refine (wsec_any fl _ (by omega)).mono ?_
  rintro e1 w8 ⟨rfl, rfl⟩
  refine hK.out _ _ hk (fun _ => ?_)
  clear hK K
  try simp only [Act.put, List.setIfInBounds_toArray, List.set_cons_zero, List.set_cons_succ]
  refine wpAnyH_take (i := 7) (oi := ⟨some 31, .binOp .add 3 (.tmp 27) (.tmp 30) 3, 3, "wal.go:110", #[⟨3, .data⟩, ⟨6, .data⟩], none⟩) (v := ?vwap6b11) rfl (by kernel_rfl) (by kernel_rfl) (by kernel_rfl) (fun _ _ _ h => h) (Or.inl ⟨by rfl, ?ywap6b11⟩) hk ?rwap6b11
  case ywap6b11 => (intro w hSw; (try dsimp only at hSw); go_simp; first | done | with_reducible rfl)
  simp only [Act.put, List.setIfInBounds_toArray, List.set_cons_zero, List.set_cons_succ]
  refine wpAnyH_ready (rs := [12]) (by decide +kernel) (by simp) ?_
  refine AllReadyH.cons (o := ⟨some 36, .call { callee := .value (.func 130), args := #[.tmp 35], argTypes := #[27] }, 3, "wal.go:110", #[⟨11, .data⟩, ⟨6, .chain⟩], none⟩) rfl (fun K hK => ?_) AllReadyH.nil
  go_simp
  refine (sectors_any gd ownD s _ hk.2.2).mono ?_
  rintro e1 w8 ⟨rfl, rfl⟩
  refine hK.out _ _ hk (fun _ => ?_)
  clear hK K
  try simp only [Act.put, List.setIfInBounds_toArray, List.set_cons_zero, List.set_cons_succ]
  refine wpAnyH_take (i := 13) (oi := ⟨some 37, .binOp .gtr 3 (.tmp 31) (.tmp 36) 3, 4, "wal.go:110", #[⟨7, .data⟩, ⟨12, .data⟩], none⟩) (v := ?vwap6b12) rfl (by kernel_rfl) (by kernel_rfl) (by kernel_rfl) (fun _ _ _ h => h) (Or.inl ⟨by rfl, ?ywap6b12⟩) hk ?rwap6b12
  case ywap6b12 => (intro w hSw; (try dsimp only at hSw); go_simp; first | done | with_reducible rfl)
  simp only [Act.put, List.setIfInBounds_toArray, List.set_cons_zero, List.set_cons_succ]
  refine wpAnyH_done (by decide +kernel) ?_ _
  have cf := HRD.out.c3
  rw [hfd] at cf
  obtain ⟨k1, k2, hDd⟩ := hk
  obtain ⟨fb, fo, rfl, hfbl, _⟩ := HM3.out.spot (by rw [HFL.out]; omega)
  have hfb := HO3'.out _ rfl
  clear k1 k2 HO3'
  go_wp2_with fail
  refine (cutf_any fb fo fl c3 _ _ HM3.out hfl (by rw [HFL.out]; omega)).mono ?_
  rintro e w4 ⟨v4, rfl, hT4, hb4⟩
  have HB4 : Bx (Below w.heap.size w w4) := ⟨bstep HB3.out hb4⟩
  have hR4 := HRD.out.below hb4
  have hD4 := hDd.below hb4
  have hFRL : (frmL ((L.T.length : Int) + 1) b).length = fl := HM3.out.len_eq
  have hPLn : (prt (frmL ((L.T.length : Int) + 1) b)).length = ns fl := by rw [prt_len, hFRL]
  obtain ⟨a4, c4, rfl, hTF⟩ := hT4.txf (own2 := ownD) (fun k hk ho => by
    have h1 := HDLT.out k ho
    rcases hk with h2 | h2
    · rw [h2] at h1; have : w.heap.size ≤ fb := hfb; omega
    · have := HB3.out.size; omega)
  rw [hPLn] at hTF ⊢
  have HTF : Bx _ := ⟨hTF⟩
  have HD4 : Bx _ := ⟨hD4⟩
  have HR4 : Bx _ := ⟨hR4⟩
  have hns1 : 1 ≤ ns fl := by rw [HFL.out]; exact ns_pos len
  have HWR : Bx (s.apW L.next (prt (frmL ((L.T.length : Int) + 1) b)) = L.wr s b) := ⟨rfl⟩
  have HB4t : Bx (Bts w4 a len cap b) := ⟨HBT.out.below HB4.out⟩
  have HNGL : Bx (¬ ownD gl) := ⟨hdj gl HR.out.og⟩
  clear hT4 hb4 hR4 hD4 hTF cf hPLn hFRL HM3 hDd HRD HB3 HR HDK HBT
  go_wp2_with fail
  refine (lwrite_any gl gd ownD s L.next (ns fl) c4 a4 _ _ HD4.out HR4.out.c0 HR4.out.c2 HNGL.out HTF.out hns1 hnsb hn2 hO).mono ?_
  rintro e w5 ⟨rfl, own5, hD5, hdid5⟩
  rw [HWR.out] at hD5 ⊢
  have hdj4 : ∀ k, ownL k → ¬ ownD k := hdj
  have hR5 : LgRW w5 gl ownL gd L (.slice av L.T.length cv) := HR4.out.keep (fun k hk => hdid5.kept.block k (HR4.out.lt k hk) (hdj k hk)) hdid5.kept.size
  have HD5 : Bx _ := ⟨hD5⟩
  have HDI5 : Bx _ := ⟨hdid5⟩
  have HB5 : Bx (Bts w5 a len cap b) := ⟨HB4t.out.keep (fun hp p e => hdid5.kept.block _ (HB4t.out.lt hp e) (hfar hp p e)) hdid5.kept.size⟩
  clear HTF HD4 HR4 HB4t HNGL hD5 hdid5 HWR hO hfar
  by_cases hE : (L.wr s b).2 = 0
  · have HE : Bx ((L.wr s b).2 = 0) := ⟨hE⟩
    rw [hE]
    clear hE
    have HFIN : Bx (∀ own2 w6 w7 vt, Kept ownL w5 w6 → (∀ k, own2 k → ownL k ∨ (w5.heap.size ≤ k ∧ k < w6.heap.size)) → Kept own2 w6 w7 → LgRW w7 gl own2 gd ⟨L.T ++ [b], L.next + ns fl, L.failed⟩ vt → APP s L b gl gd ownD ownL w w7) := ⟨fun own2 w6 w7 vt h1 h2 h3 h4 => APP.ok HGO.out HE.out hdj HLLT.out HB4.out HDI5.out HD5.out h1 h2 h3 (by rw [HFL.out, ← hbl] at h4; exact h4)⟩
    have HTO9 : Bx (TOkW (L.T ++ [b])) := ⟨hR5.ok.snoc (by omega) HB5.out.byt⟩
    have HTN9 : Bx ((L.T ++ [b]).length ≤ L.next + ns fl) := ⟨by rw [List.length_append]; have := hR5.tn; show _ + 1 ≤ _; omega⟩
    obtain ⟨i0, hi0, hz0, hz1, hz2⟩ := info_parts Tryz.info22W
    clear HD5 HDI5 HGO HLLT HDLT hdj hdj4 HB4
    go_wp2_with fail
    obtain ⟨wl, hwl⟩ : ∃ wl, wl = w5 := ⟨_, rfl⟩
    subst hwl
    obtain ⟨vt, HVT⟩ : ∃ vt, Bx (vt = Value.slice av L.T.length cv) := ⟨_, ⟨rfl⟩⟩
    have HL : Bx (LgRW wl.drew gl ownL gd L vt) := ⟨by rw [HVT.out]; exact hR5.keep (fun _ _ => rfl) (Nat.le_refl _)⟩
    have HB : Bx (Bts wl.drew a len cap b) := ⟨HB5.out.drewN 1⟩
    have HBY : Bx (Byt b) := ⟨HB5.out.byt⟩
    have HK : Bx (Kept ownL wl wl.drew) := ⟨(Kept.refl _ _).drewN 1⟩
    have hk : True := trivial
    clear hR5 HB5
    go_cut [] from 52 to 72 (fun wx => ∃ own2 vt2, LgX wx gl own2 gd (L.T ++ [b]) L.next L.failed vt2 ∧ Kept ownL wl wx ∧ (∀ k, ownL k → own2 k) ∧ ∀ k, own2 k → ownL k ∨ (wl.heap.size ≤ k ∧ k < wx.heap.size))
    case first =>
      refine wp_region_held_drew (S := fun _ => True) (by kernel_rfl) hk (fun _ => ?_)
      generalize wl.drew = wk at HL HB HK ⊢
      refine wpAnyH_take (i := 0) (oi := ⟨some 52, .move (.tmp 0), 126, "wal.go:120", #[], none⟩) (v := ?vwap141) rfl (by kernel_rfl) (by kernel_rfl) (by kernel_rfl) (fun _ _ _ h => h) (Or.inl ⟨by rfl, ?ywap141⟩) hk ?rwap141
      case ywap141 => (intro w hSw; (try dsimp only at hSw); go_simp; first | done | with_reducible rfl)
      simp only [Act.put, List.setIfInBounds_toArray, List.set_cons_zero, List.set_cons_succ]
      refine wpAnyH_take (i := 1) (oi := ⟨some 53, .move (.tmp 0), 126, "wal.go:120", #[], none⟩) (v := ?vwap142) rfl (by kernel_rfl) (by kernel_rfl) (by kernel_rfl) (fun _ _ _ h => h) (Or.inl ⟨by rfl, ?ywap142⟩) hk ?rwap142
      case ywap142 => (intro w hSw; (try dsimp only at hSw); go_simp; first | done | with_reducible rfl)
      simp only [Act.put, List.setIfInBounds_toArray, List.set_cons_zero, List.set_cons_succ]
      refine wpAnyH_take (i := 2) (oi := ⟨some 54, .nilCheck (.tmp 53), 0, "wal.go:120", #[⟨1, .data⟩], none⟩) (v := ?vwap143) rfl (by kernel_rfl) (by kernel_rfl) (by kernel_rfl) (fun _ _ _ h => h) (Or.inl ⟨by rfl, ?ywap143⟩) hk ?rwap143
      case ywap143 => (intro w hSw; (try dsimp only at hSw); go_simp; first | done | with_reducible rfl)
      simp only [Act.put, List.setIfInBounds_toArray, List.set_cons_zero, List.set_cons_succ]
      refine wpAnyH_take (i := 3) (oi := ⟨some 55, .fieldAddr 207 (.tmp 54) 1, 0, "wal.go:120", #[⟨2, .data⟩], none⟩) (v := ?vwap144) rfl (by kernel_rfl) (by kernel_rfl) (by kernel_rfl) (fun _ _ _ h => h) (Or.inl ⟨by rfl, ?ywap144⟩) hk ?rwap144
      case ywap144 => (intro w hSw; (try dsimp only at hSw); go_simp; first | done | with_reducible rfl)
      simp only [Act.put, List.setIfInBounds_toArray, List.set_cons_zero, List.set_cons_succ]
      refine wpAnyH_take (i := 5) (oi := ⟨some 57, .move (.tmp 1), 34, "wal.go:120", #[], none⟩) (v := ?vwap145) rfl (by kernel_rfl) (by kernel_rfl) (by kernel_rfl) (fun _ _ _ h => h) (Or.inl ⟨by rfl, ?ywap145⟩) hk ?rwap145
      case ywap145 => (intro w hSw; (try dsimp only at hSw); go_simp; first | done | with_reducible rfl)
      simp only [Act.put, List.setIfInBounds_toArray, List.set_cons_zero, List.set_cons_succ]
      refine wpAnyH_ready (rs := [4, 6]) (by decide +kernel) (by simp) ?_
      refine (AllReadyH.cons (o := ⟨some 56, .load 60 (.tmp 55), 60, "wal.go:120", #[⟨3, .data⟩], none⟩) rfl (fun K hK => ?_) (AllReadyH.cons (o := ⟨some 58, .call { callee := .value (.func 111), args := #[.tmp 57], argTypes := #[34] }, 34, "wal.go:120", #[⟨5, .data⟩], none⟩) rfl (fun K hK => ?_) AllReadyH.nil))
      · rw [if_pos (by rfl)]
        have c1 := HL.out.c1
        go_simp
        clear c1
        refine hK.out _ _ hk (fun _ => ?_)
        clear hK K
        try simp only [Act.put, List.setIfInBounds_toArray, List.set_cons_zero, List.set_cons_succ]
        refine wpAnyH_ready (rs := [6]) (by decide +kernel) (by simp) ?_
        refine AllReadyH.cons (o := ⟨some 58, .call { callee := .value (.func 111), args := #[.tmp 57], argTypes := #[34] }, 34, "wal.go:120", #[⟨5, .data⟩], none⟩) rfl (fun K hK => ?_) AllReadyH.nil
        go_simp
        refine (clone_any a len cap b _ HB.out (by omega)).mono ?_
        rintro e1 w8 ⟨v3, rfl, hown3, hb3⟩
        obtain ⟨a3, c3, rfl, hm3⟩ := Bts.of_owns hown3 HBY.out
        have HFR : Bx (0 < len → ∀ p, a3 = some p → ¬ ownL p.block ∧ wl.heap.size ≤ p.block) := ⟨fun _ p e => by have h1 := own_ge hown3 p e; exact ⟨fun ho => by have := HL.out.lt _ ho; omega, Nat.le_trans HK.out.size h1.1⟩⟩
        replace HL : Bx (LgRW w8 gl ownL gd L vt) := ⟨HL.out.keep (fun k hk => hb3.block k (HL.out.lt k hk)) hb3.size⟩
        replace HK : Bx (Kept ownL wl w8) := ⟨HK.out.below hb3⟩
        clear hown3 hb3 HB
        generalize w8 = wk at HL HK hm3 ⊢
        refine hK.out _ _ hk (fun _ => ?_)
        clear hK K
        try simp only [Act.put, List.setIfInBounds_toArray, List.set_cons_zero, List.set_cons_succ]
        refine wpAnyH_ready (rs := [7]) (by decide +kernel) (by simp) ?_
        refine AllReadyH.cons (o := ⟨some 59, .buildSlice 60 1 #[(0, .tmp 58)], 60, "wal.go:120", #[⟨6, .data⟩], none⟩) rfl (fun K hK => ?_) AllReadyH.nil
        go_simp
        have hbA : Below wk.heap.size wk (wk.alloc (.cells #[.slice a3 len c3] 34)) := (Below.refl _ _).alloc (Nat.le_refl _) _
        have hnew := World.news_of_block (heap_alloc_new wk (.cells #[.slice a3 len c3] 34))
        replace HL : Bx (LgRW (wk.alloc (.cells #[.slice a3 len c3] 34)) gl ownL gd L vt) := ⟨HL.out.keep (fun k hk => hbA.block k (HL.out.lt k hk)) hbA.size⟩
        replace HK : Bx (Kept ownL wl (wk.alloc (.cells #[.slice a3 len c3] 34))) := ⟨HK.out.below hbA⟩
        replace hm3 := hm3.below hbA
        clear hbA
        generalize wk.heap.size = G at hnew ⊢
        generalize wk.alloc (.cells #[.slice a3 len c3] 34) = wk at HL HK hm3 hnew ⊢
        refine hK.out _ _ hk (fun _ => ?_)
        clear hK K
        try simp only [Act.put, List.setIfInBounds_toArray, List.set_cons_zero, List.set_cons_succ]
        refine wpAnyH_ready (rs := [8]) (by decide +kernel) (by simp) ?_
        refine AllReadyH.cons (o := ⟨some 60, .call { callee := .builtin Builtin.append, args := #[.tmp 56, .tmp 59], argTypes := #[60, 60] }, 60, "wal.go:120", #[⟨4, .data⟩, ⟨7, .data⟩, ⟨6, .chain⟩], none⟩) rfl (fun K hK => ?_) AllReadyH.nil
        obtain ⟨xs, hxo, HTA⟩ := HL.out.tl.open
        refine step_append_lies _ rfl (.tmp 56) (.tmp 59) 60 rfl 0 34 i0 (.slice none 0 0) 1 24 Tryz.underlying60 hi0 hz0 hz1 hz2 rfl (by decide) vt L.T.length xs rfl hxo ⟨G, 0, none⟩ 1 1 [.slice a3 len c3] rfl rfl hnew (by simp [Value.oneCell']) (by decide) (by unfold maxLen; omega) (by omega) (Nat.zero_le _) _ rfl ?_
        intro g4 cap4 w6 hown4 hgr4 hl4 hlt4
        obtain ⟨c1, f1, HX⟩ := LgRW.more HL.out HTA.out hm3 HFR.out HK.out hown4 hgr4 hl4
        clear hown4 hgr4 hl4 hlt4 hxo HTA HL HK hm3 hnew
        refine hK.out _ _ hk (fun _ => ?_)
        clear hK K
        try simp only [Act.put, List.setIfInBounds_toArray, List.set_cons_zero, List.set_cons_succ]
        refine wpAnyH_take (i := 9) (oi := ⟨some 61, .nilCheck (.tmp 52), 0, "wal.go:120", #[⟨0, .data⟩, ⟨0, .phase⟩, ⟨1, .phase⟩, ⟨2, .phase⟩, ⟨3, .phase⟩, ⟨4, .phase⟩, ⟨5, .phase⟩, ⟨6, .phase⟩, ⟨7, .phase⟩, ⟨8, .phase⟩], none⟩) (v := ?vwap147) rfl (by kernel_rfl) (by kernel_rfl) (by kernel_rfl) (fun _ _ _ h => h) (Or.inl ⟨by rfl, ?ywap147⟩) hk ?rwap147
        case ywap147 => (intro w hSw; (try dsimp only at hSw); go_simp; first | done | with_reducible rfl)
        simp only [Act.put, List.setIfInBounds_toArray, List.set_cons_zero, List.set_cons_succ]
        refine wpAnyH_take (i := 10) (oi := ⟨some 62, .fieldAddr 207 (.tmp 61) 1, 0, "wal.go:120", #[⟨9, .data⟩, ⟨0, .phase⟩, ⟨1, .phase⟩, ⟨2, .phase⟩, ⟨3, .phase⟩, ⟨4, .phase⟩, ⟨5, .phase⟩, ⟨6, .phase⟩, ⟨7, .phase⟩, ⟨8, .phase⟩], none⟩) (v := ?vwap148) rfl (by kernel_rfl) (by kernel_rfl) (by kernel_rfl) (fun _ _ _ h => h) (Or.inl ⟨by rfl, ?ywap148⟩) hk ?rwap148
        case ywap148 => (intro w hSw; (try dsimp only at hSw); go_simp; first | done | with_reducible rfl)
        simp only [Act.put, List.setIfInBounds_toArray, List.set_cons_zero, List.set_cons_succ]
        refine wpAnyH_ready (rs := [11]) (by decide +kernel) (by simp) ?_
        refine AllReadyH.cons (o := ⟨none, .store 60 (.tmp 62) (.tmp 60), 0, "wal.go:120", #[⟨10, .data⟩, ⟨8, .data⟩, ⟨8, .chain⟩, ⟨0, .phase⟩, ⟨1, .phase⟩, ⟨2, .phase⟩, ⟨3, .phase⟩, ⟨4, .phase⟩, ⟨5, .phase⟩, ⟨6, .phase⟩, ⟨7, .phase⟩, ⟨8, .phase⟩], none⟩) rfl (fun K hK => ?_) AllReadyH.nil
        rw [if_pos (by rfl)]
        go_simp
        clear c1 f1
        refine hK.out _ _ hk (fun _ => ?_)
        clear hK K
        try simp only [Act.put, List.setIfInBounds_toArray, List.set_cons_zero, List.set_cons_succ]
        refine wpAnyH_done (by decide +kernel) ?_ _
        generalize w6.setCell ⟨gl, 1, none⟩ (.slice (some ⟨g4, 0, none⟩) (L.T.length + 1) cap4) = wq at HX ⊢
        go_wp2_with fail
        go_meet
        case rel => exact HX.out
      · go_simp
        refine (clone_any a len cap b _ HB.out (by omega)).mono ?_
        rintro e1 w8 ⟨v3, rfl, hown3, hb3⟩
        obtain ⟨a3, c3, rfl, hm3⟩ := Bts.of_owns hown3 HBY.out
        have HFR : Bx (0 < len → ∀ p, a3 = some p → ¬ ownL p.block ∧ wl.heap.size ≤ p.block) := ⟨fun _ p e => by have h1 := own_ge hown3 p e; exact ⟨fun ho => by have := HL.out.lt _ ho; omega, Nat.le_trans HK.out.size h1.1⟩⟩
        replace HL : Bx (LgRW w8 gl ownL gd L vt) := ⟨HL.out.keep (fun k hk => hb3.block k (HL.out.lt k hk)) hb3.size⟩
        replace HK : Bx (Kept ownL wl w8) := ⟨HK.out.below hb3⟩
        clear hown3 hb3 HB
        generalize w8 = wk at HL HK hm3 ⊢
        refine hK.out _ _ hk (fun _ => ?_)
        clear hK K
        try simp only [Act.put, List.setIfInBounds_toArray, List.set_cons_zero, List.set_cons_succ]
        refine wpAnyH_ready (rs := [4, 7]) (by decide +kernel) (by simp) ?_
        refine (AllReadyH.cons (o := ⟨some 56, .load 60 (.tmp 55), 60, "wal.go:120", #[⟨3, .data⟩], none⟩) rfl (fun K hK => ?_) (AllReadyH.cons (o := ⟨some 59, .buildSlice 60 1 #[(0, .tmp 58)], 60, "wal.go:120", #[⟨6, .data⟩], none⟩) rfl (fun K hK => ?_) AllReadyH.nil))
        · rw [if_pos (by rfl)]
          have c1 := HL.out.c1
          go_simp
          clear c1
          refine hK.out _ _ hk (fun _ => ?_)
          clear hK K
          try simp only [Act.put, List.setIfInBounds_toArray, List.set_cons_zero, List.set_cons_succ]
          refine wpAnyH_ready (rs := [7]) (by decide +kernel) (by simp) ?_
          refine AllReadyH.cons (o := ⟨some 59, .buildSlice 60 1 #[(0, .tmp 58)], 60, "wal.go:120", #[⟨6, .data⟩], none⟩) rfl (fun K hK => ?_) AllReadyH.nil
          go_simp
          have hbA : Below wk.heap.size wk (wk.alloc (.cells #[.slice a3 len c3] 34)) := (Below.refl _ _).alloc (Nat.le_refl _) _
          have hnew := World.news_of_block (heap_alloc_new wk (.cells #[.slice a3 len c3] 34))
          replace HL : Bx (LgRW (wk.alloc (.cells #[.slice a3 len c3] 34)) gl ownL gd L vt) := ⟨HL.out.keep (fun k hk => hbA.block k (HL.out.lt k hk)) hbA.size⟩
          replace HK : Bx (Kept ownL wl (wk.alloc (.cells #[.slice a3 len c3] 34))) := ⟨HK.out.below hbA⟩
          replace hm3 := hm3.below hbA
          clear hbA
          generalize wk.heap.size = G at hnew ⊢
          generalize wk.alloc (.cells #[.slice a3 len c3] 34) = wk at HL HK hm3 hnew ⊢
          refine hK.out _ _ hk (fun _ => ?_)
          clear hK K
          try simp only [Act.put, List.setIfInBounds_toArray, List.set_cons_zero, List.set_cons_succ]
          refine wpAnyH_ready (rs := [8]) (by decide +kernel) (by simp) ?_
          refine AllReadyH.cons (o := ⟨some 60, .call { callee := .builtin Builtin.append, args := #[.tmp 56, .tmp 59], argTypes := #[60, 60] }, 60, "wal.go:120", #[⟨4, .data⟩, ⟨7, .data⟩, ⟨6, .chain⟩], none⟩) rfl (fun K hK => ?_) AllReadyH.nil
          obtain ⟨xs, hxo, HTA⟩ := HL.out.tl.open
          refine step_append_lies _ rfl (.tmp 56) (.tmp 59) 60 rfl 0 34 i0 (.slice none 0 0) 1 24 Tryz.underlying60 hi0 hz0 hz1 hz2 rfl (by decide) vt L.T.length xs rfl hxo ⟨G, 0, none⟩ 1 1 [.slice a3 len c3] rfl rfl hnew (by simp [Value.oneCell']) (by decide) (by unfold maxLen; omega) (by omega) (Nat.zero_le _) _ rfl ?_
          intro g4 cap4 w6 hown4 hgr4 hl4 hlt4
          obtain ⟨c1, f1, HX⟩ := LgRW.more HL.out HTA.out hm3 HFR.out HK.out hown4 hgr4 hl4
          clear hown4 hgr4 hl4 hlt4 hxo HTA HL HK hm3 hnew
          refine hK.out _ _ hk (fun _ => ?_)
          clear hK K
          try simp only [Act.put, List.setIfInBounds_toArray, List.set_cons_zero, List.set_cons_succ]
          refine wpAnyH_take (i := 9) (oi := ⟨some 61, .nilCheck (.tmp 52), 0, "wal.go:120", #[⟨0, .data⟩, ⟨0, .phase⟩, ⟨1, .phase⟩, ⟨2, .phase⟩, ⟨3, .phase⟩, ⟨4, .phase⟩, ⟨5, .phase⟩, ⟨6, .phase⟩, ⟨7, .phase⟩, ⟨8, .phase⟩], none⟩) (v := ?vwap1411) rfl (by kernel_rfl) (by kernel_rfl) (by kernel_rfl) (fun _ _ _ h => h) (Or.inl ⟨by rfl, ?ywap1411⟩) hk ?rwap1411
          case ywap1411 => (intro w hSw; (try dsimp only at hSw); go_simp; first | done | with_reducible rfl)
          simp only [Act.put, List.setIfInBounds_toArray, List.set_cons_zero, List.set_cons_succ]
          refine wpAnyH_take (i := 10) (oi := ⟨some 62, .fieldAddr 207 (.tmp 61) 1, 0, "wal.go:120", #[⟨9, .data⟩, ⟨0, .phase⟩, ⟨1, .phase⟩, ⟨2, .phase⟩, ⟨3, .phase⟩, ⟨4, .phase⟩, ⟨5, .phase⟩, ⟨6, .phase⟩, ⟨7, .phase⟩, ⟨8, .phase⟩], none⟩) (v := ?vwap1412) rfl (by kernel_rfl) (by kernel_rfl) (by kernel_rfl) (fun _ _ _ h => h) (Or.inl ⟨by rfl, ?ywap1412⟩) hk ?rwap1412
          case ywap1412 => (intro w hSw; (try dsimp only at hSw); go_simp; first | done | with_reducible rfl)
          simp only [Act.put, List.setIfInBounds_toArray, List.set_cons_zero, List.set_cons_succ]
          refine wpAnyH_ready (rs := [11]) (by decide +kernel) (by simp) ?_
          refine AllReadyH.cons (o := ⟨none, .store 60 (.tmp 62) (.tmp 60), 0, "wal.go:120", #[⟨10, .data⟩, ⟨8, .data⟩, ⟨8, .chain⟩, ⟨0, .phase⟩, ⟨1, .phase⟩, ⟨2, .phase⟩, ⟨3, .phase⟩, ⟨4, .phase⟩, ⟨5, .phase⟩, ⟨6, .phase⟩, ⟨7, .phase⟩, ⟨8, .phase⟩], none⟩) rfl (fun K hK => ?_) AllReadyH.nil
          rw [if_pos (by rfl)]
          go_simp
          clear c1 f1
          refine hK.out _ _ hk (fun _ => ?_)
          clear hK K
          try simp only [Act.put, List.setIfInBounds_toArray, List.set_cons_zero, List.set_cons_succ]
          refine wpAnyH_done (by decide +kernel) ?_ _
          generalize w6.setCell ⟨gl, 1, none⟩ (.slice (some ⟨g4, 0, none⟩) (L.T.length + 1) cap4) = wq at HX ⊢
          go_wp2_with fail
          go_meet
          case rel => exact HX.out
        · go_simp
          have hbA : Below wk.heap.size wk (wk.alloc (.cells #[.slice a3 len c3] 34)) := (Below.refl _ _).alloc (Nat.le_refl _) _
          have hnew := World.news_of_block (heap_alloc_new wk (.cells #[.slice a3 len c3] 34))
          replace HL : Bx (LgRW (wk.alloc (.cells #[.slice a3 len c3] 34)) gl ownL gd L vt) := ⟨HL.out.keep (fun k hk => hbA.block k (HL.out.lt k hk)) hbA.size⟩
          replace HK : Bx (Kept ownL wl (wk.alloc (.cells #[.slice a3 len c3] 34))) := ⟨HK.out.below hbA⟩
          replace hm3 := hm3.below hbA
          clear hbA
          generalize wk.heap.size = G at hnew ⊢
          generalize wk.alloc (.cells #[.slice a3 len c3] 34) = wk at HL HK hm3 hnew ⊢
          refine hK.out _ _ hk (fun _ => ?_)
          clear hK K
          try simp only [Act.put, List.setIfInBounds_toArray, List.set_cons_zero, List.set_cons_succ]
          refine wpAnyH_ready (rs := [4]) (by decide +kernel) (by simp) ?_
          refine AllReadyH.cons (o := ⟨some 56, .load 60 (.tmp 55), 60, "wal.go:120", #[⟨3, .data⟩], none⟩) rfl (fun K hK => ?_) AllReadyH.nil
          rw [if_pos (by rfl)]
          have c1 := HL.out.c1
          go_simp
          clear c1
          refine hK.out _ _ hk (fun _ => ?_)
          clear hK K
          try simp only [Act.put, List.setIfInBounds_toArray, List.set_cons_zero, List.set_cons_succ]
          refine wpAnyH_ready (rs := [8]) (by decide +kernel) (by simp) ?_
          refine AllReadyH.cons (o := ⟨some 60, .call { callee := .builtin Builtin.append, args := #[.tmp 56, .tmp 59], argTypes := #[60, 60] }, 60, "wal.go:120", #[⟨4, .data⟩, ⟨7, .data⟩, ⟨6, .chain⟩], none⟩) rfl (fun K hK => ?_) AllReadyH.nil
          obtain ⟨xs, hxo, HTA⟩ := HL.out.tl.open
          refine step_append_lies _ rfl (.tmp 56) (.tmp 59) 60 rfl 0 34 i0 (.slice none 0 0) 1 24 Tryz.underlying60 hi0 hz0 hz1 hz2 rfl (by decide) vt L.T.length xs rfl hxo ⟨G, 0, none⟩ 1 1 [.slice a3 len c3] rfl rfl hnew (by simp [Value.oneCell']) (by decide) (by unfold maxLen; omega) (by omega) (Nat.zero_le _) _ rfl ?_
          intro g4 cap4 w6 hown4 hgr4 hl4 hlt4
          obtain ⟨c1, f1, HX⟩ := LgRW.more HL.out HTA.out hm3 HFR.out HK.out hown4 hgr4 hl4
          clear hown4 hgr4 hl4 hlt4 hxo HTA HL HK hm3 hnew
          refine hK.out _ _ hk (fun _ => ?_)
          clear hK K
          try simp only [Act.put, List.setIfInBounds_toArray, List.set_cons_zero, List.set_cons_succ]
          refine wpAnyH_take (i := 9) (oi := ⟨some 61, .nilCheck (.tmp 52), 0, "wal.go:120", #[⟨0, .data⟩, ⟨0, .phase⟩, ⟨1, .phase⟩, ⟨2, .phase⟩, ⟨3, .phase⟩, ⟨4, .phase⟩, ⟨5, .phase⟩, ⟨6, .phase⟩, ⟨7, .phase⟩, ⟨8, .phase⟩], none⟩) (v := ?vwap1415) rfl (by kernel_rfl) (by kernel_rfl) (by kernel_rfl) (fun _ _ _ h => h) (Or.inl ⟨by rfl, ?ywap1415⟩) hk ?rwap1415
          case ywap1415 => (intro w hSw; (try dsimp only at hSw); go_simp; first | done | with_reducible rfl)
          simp only [Act.put, List.setIfInBounds_toArray, List.set_cons_zero, List.set_cons_succ]
          refine wpAnyH_take (i := 10) (oi := ⟨some 62, .fieldAddr 207 (.tmp 61) 1, 0, "wal.go:120", #[⟨9, .data⟩, ⟨0, .phase⟩, ⟨1, .phase⟩, ⟨2, .phase⟩, ⟨3, .phase⟩, ⟨4, .phase⟩, ⟨5, .phase⟩, ⟨6, .phase⟩, ⟨7, .phase⟩, ⟨8, .phase⟩], none⟩) (v := ?vwap1416) rfl (by kernel_rfl) (by kernel_rfl) (by kernel_rfl) (fun _ _ _ h => h) (Or.inl ⟨by rfl, ?ywap1416⟩) hk ?rwap1416
          case ywap1416 => (intro w hSw; (try dsimp only at hSw); go_simp; first | done | with_reducible rfl)
          simp only [Act.put, List.setIfInBounds_toArray, List.set_cons_zero, List.set_cons_succ]
          refine wpAnyH_ready (rs := [11]) (by decide +kernel) (by simp) ?_
          refine AllReadyH.cons (o := ⟨none, .store 60 (.tmp 62) (.tmp 60), 0, "wal.go:120", #[⟨10, .data⟩, ⟨8, .data⟩, ⟨8, .chain⟩, ⟨0, .phase⟩, ⟨1, .phase⟩, ⟨2, .phase⟩, ⟨3, .phase⟩, ⟨4, .phase⟩, ⟨5, .phase⟩, ⟨6, .phase⟩, ⟨7, .phase⟩, ⟨8, .phase⟩], none⟩) rfl (fun K hK => ?_) AllReadyH.nil
          rw [if_pos (by rfl)]
          go_simp
          clear c1 f1
          refine hK.out _ _ hk (fun _ => ?_)
          clear hK K
          try simp only [Act.put, List.setIfInBounds_toArray, List.set_cons_zero, List.set_cons_succ]
          refine wpAnyH_done (by decide +kernel) ?_ _
          generalize w6.setCell ⟨gl, 1, none⟩ (.slice (some ⟨g4, 0, none⟩) (L.T.length + 1) cap4) = wq at HX ⊢
          go_wp2_with fail
          go_meet
          case rel => exact HX.out
    case rest =>
      clear HL HB HK
      obtain ⟨own2, vt2, hX, hK2, hsub, hnew2⟩ := hcut
      have HX : Bx (LgX wc.drew gl own2 gd (L.T ++ [b]) L.next L.failed vt2) := ⟨hX.drew⟩
      have HK : Bx (Kept own2 wc wc.drew) := ⟨(Kept.refl _ _).drewN 1⟩
      replace HFIN : Bx (∀ w7 vt, LgRW w7 gl own2 gd ⟨L.T ++ [b], L.next + ns fl, L.failed⟩ vt → Kept own2 wc w7 → APP s L b gl gd ownD ownL w w7) := ⟨fun w7 vt h1 h2 => HFIN.out own2 wc w7 vt hK2 hnew2 h2 h1⟩
      clear hX hK2 hsub hnew2
      go_wp2_with fail
      refine wp_region_held_drew (S := fun _ => True) (by kernel_rfl) hk (fun _ => ?_)
      generalize wc.drew = wk at HX HK ⊢
      refine wpAnyH_take (i := 0) (oi := ⟨some 63, .move (.tmp 0), 126, "wal.go:121", #[], none⟩) (v := ?vwap151) rfl (by kernel_rfl) (by kernel_rfl) (by kernel_rfl) (fun _ _ _ h => h) (Or.inl ⟨by rfl, ?ywap151⟩) hk ?rwap151
      case ywap151 => (intro w hSw; (try dsimp only at hSw); go_simp; first | done | with_reducible rfl)
      simp only [Act.put, List.setIfInBounds_toArray, List.set_cons_zero, List.set_cons_succ]
      refine wpAnyH_take (i := 1) (oi := ⟨some 64, .nilCheck (.tmp 63), 0, "wal.go:121", #[⟨0, .data⟩], none⟩) (v := ?vwap152) rfl (by kernel_rfl) (by kernel_rfl) (by kernel_rfl) (fun _ _ _ h => h) (Or.inl ⟨by rfl, ?ywap152⟩) hk ?rwap152
      case ywap152 => (intro w hSw; (try dsimp only at hSw); go_simp; first | done | with_reducible rfl)
      simp only [Act.put, List.setIfInBounds_toArray, List.set_cons_zero, List.set_cons_succ]
      refine wpAnyH_take (i := 2) (oi := ⟨some 65, .fieldAddr 207 (.tmp 64) 2, 0, "wal.go:121", #[⟨1, .data⟩], none⟩) (v := ?vwap153) rfl (by kernel_rfl) (by kernel_rfl) (by kernel_rfl) (fun _ _ _ h => h) (Or.inl ⟨by rfl, ?ywap153⟩) hk ?rwap153
      case ywap153 => (intro w hSw; (try dsimp only at hSw); go_simp; first | done | with_reducible rfl)
      simp only [Act.put, List.setIfInBounds_toArray, List.set_cons_zero, List.set_cons_succ]
      refine wpAnyH_take (i := 4) (oi := ⟨some 67, .move (.tmp 5), 34, "wal.go:121", #[], none⟩) (v := ?vwap154) rfl (by kernel_rfl) (by kernel_rfl) (by kernel_rfl) (fun _ _ _ h => h) (Or.inl ⟨by rfl, ?ywap154⟩) hk ?rwap154
      case ywap154 => (intro w hSw; (try dsimp only at hSw); go_simp; first | done | with_reducible rfl)
      simp only [Act.put, List.setIfInBounds_toArray, List.set_cons_zero, List.set_cons_succ]
      refine wpAnyH_take (i := 5) (oi := ⟨some 68, .call { callee := .builtin Builtin.len, args := #[.tmp 67], argTypes := #[34] }, 3, "wal.go:121", #[⟨4, .data⟩], none⟩) (v := ?vwap155) rfl (by kernel_rfl) (by kernel_rfl) (by kernel_rfl) (fun _ _ _ h => h) (Or.inl ⟨by rfl, ?ywap155⟩) hk ?rwap155
      case ywap155 => (intro w hSw; (try dsimp only at hSw); go_simp; first | done | with_reducible rfl)
      simp only [Act.put, List.setIfInBounds_toArray, List.set_cons_zero, List.set_cons_succ]
      refine wpAnyH_ready (rs := [3, 6]) (by decide +kernel) (by simp) ?_
      refine (AllReadyH.cons (o := ⟨some 66, .load 3 (.tmp 65), 3, "wal.go:121", #[⟨2, .data⟩], none⟩) rfl (fun K hK => ?_) (AllReadyH.cons (o := ⟨some 69, .call { callee := .value (.func 227), args := #[.tmp 68], argTypes := #[3] }, 3, "wal.go:121", #[⟨5, .data⟩], none⟩) rfl (fun K hK => ?_) AllReadyH.nil))
      · rw [if_pos (by rfl)]
        have c2 := HX.out.c2
        go_simp
        clear c2
        refine hK.out _ _ hk (fun _ => ?_)
        clear hK K
        try simp only [Act.put, List.setIfInBounds_toArray, List.set_cons_zero, List.set_cons_succ]
        refine wpAnyH_ready (rs := [6]) (by decide +kernel) (by simp) ?_
        refine AllReadyH.cons (o := ⟨some 69, .call { callee := .value (.func 227), args := #[.tmp 68], argTypes := #[3] }, 3, "wal.go:121", #[⟨5, .data⟩], none⟩) rfl (fun K hK => ?_) AllReadyH.nil
        go_simp
        refine (wsec_any fl _ (by omega)).mono ?_
        rintro e1 w8 ⟨rfl, rfl⟩
        refine hK.out _ _ hk (fun _ => ?_)
        clear hK K
        try simp only [Act.put, List.setIfInBounds_toArray, List.set_cons_zero, List.set_cons_succ]
        refine wpAnyH_take (i := 7) (oi := ⟨some 70, .binOp .add 3 (.tmp 66) (.tmp 69) 3, 3, "wal.go:121", #[⟨3, .data⟩, ⟨6, .data⟩], none⟩) (v := ?vwap157) rfl (by kernel_rfl) (by kernel_rfl) (by kernel_rfl) (fun _ _ _ h => h) (Or.inl ⟨by rfl, ?ywap157⟩) hk ?rwap157
        case ywap157 => (intro w hSw; (try dsimp only at hSw); go_simp; first | done | with_reducible rfl)
        simp only [Act.put, List.setIfInBounds_toArray, List.set_cons_zero, List.set_cons_succ]
        refine wpAnyH_take (i := 8) (oi := ⟨some 71, .nilCheck (.tmp 63), 0, "wal.go:121", #[⟨0, .data⟩, ⟨0, .phase⟩, ⟨1, .phase⟩, ⟨2, .phase⟩, ⟨3, .phase⟩, ⟨4, .phase⟩, ⟨5, .phase⟩, ⟨6, .phase⟩, ⟨7, .phase⟩], none⟩) (v := ?vwap158) rfl (by kernel_rfl) (by kernel_rfl) (by kernel_rfl) (fun _ _ _ h => h) (Or.inl ⟨by rfl, ?ywap158⟩) hk ?rwap158
        case ywap158 => (intro w hSw; (try dsimp only at hSw); go_simp; first | done | with_reducible rfl)
        simp only [Act.put, List.setIfInBounds_toArray, List.set_cons_zero, List.set_cons_succ]
        refine wpAnyH_take (i := 9) (oi := ⟨some 72, .fieldAddr 207 (.tmp 71) 2, 0, "wal.go:121", #[⟨8, .data⟩, ⟨0, .phase⟩, ⟨1, .phase⟩, ⟨2, .phase⟩, ⟨3, .phase⟩, ⟨4, .phase⟩, ⟨5, .phase⟩, ⟨6, .phase⟩, ⟨7, .phase⟩], none⟩) (v := ?vwap159) rfl (by kernel_rfl) (by kernel_rfl) (by kernel_rfl) (fun _ _ _ h => h) (Or.inl ⟨by rfl, ?ywap159⟩) hk ?rwap159
        case ywap159 => (intro w hSw; (try dsimp only at hSw); go_simp; first | done | with_reducible rfl)
        simp only [Act.put, List.setIfInBounds_toArray, List.set_cons_zero, List.set_cons_succ]
        refine wpAnyH_ready (rs := [10]) (by decide +kernel) (by simp) ?_
        refine AllReadyH.cons (o := ⟨none, .store 3 (.tmp 72) (.tmp 70), 0, "wal.go:121", #[⟨9, .data⟩, ⟨7, .data⟩, ⟨6, .chain⟩, ⟨0, .phase⟩, ⟨1, .phase⟩, ⟨2, .phase⟩, ⟨3, .phase⟩, ⟨4, .phase⟩, ⟨5, .phase⟩, ⟨6, .phase⟩, ⟨7, .phase⟩], none⟩) rfl (fun K hK => ?_) AllReadyH.nil
        rw [if_pos (by rfl)]
        have f2 := HX.out.fr 2
        have c2 := HX.out.c2
        go_simp
        clear f2 c2
        refine hK.out _ _ hk (fun _ => ?_)
        clear hK K
        try simp only [Act.put, List.setIfInBounds_toArray, List.set_cons_zero, List.set_cons_succ]
        refine wpAnyH_done (by decide +kernel) ?_ _
        have HL9 : Bx _ := ⟨HX.out.setNext (L.next + ns fl) HTO9.out HTN9.out (by omega)⟩
        have HK9 : Bx (Kept own2 wc (wk.setCell ⟨gl, 2, none⟩ (.int .i64 ((L.next + ns fl : Nat) : Int)))) := ⟨HK.out.setCell (.inl HX.out.og) 2 _⟩
        rw [show (L.next : Int) + ((ns fl : Nat) : Int) = ((L.next + ns fl : Nat) : Int) from by omega]
        generalize wk.setCell ⟨gl, 2, none⟩ (.int .i64 ((L.next + ns fl : Nat) : Int)) = wq at HL9 HK9 ⊢
        go_wp2
        go_ret
        exact ⟨by rw [HE.out]; rfl, HFIN.out _ _ HL9.out HK9.out⟩
      · go_simp
        refine (wsec_any fl _ (by omega)).mono ?_
        rintro e1 w8 ⟨rfl, rfl⟩
        refine hK.out _ _ hk (fun _ => ?_)
        clear hK K
        try simp only [Act.put, List.setIfInBounds_toArray, List.set_cons_zero, List.set_cons_succ]
        refine wpAnyH_ready (rs := [3]) (by decide +kernel) (by simp) ?_
        refine AllReadyH.cons (o := ⟨some 66, .load 3 (.tmp 65), 3, "wal.go:121", #[⟨2, .data⟩], none⟩) rfl (fun K hK => ?_) AllReadyH.nil
        rw [if_pos (by rfl)]
        have c2 := HX.out.c2
        go_simp
        clear c2
        refine hK.out _ _ hk (fun _ => ?_)
        clear hK K
        try simp only [Act.put, List.setIfInBounds_toArray, List.set_cons_zero, List.set_cons_succ]
        refine wpAnyH_take (i := 7) (oi := ⟨some 70, .binOp .add 3 (.tmp 66) (.tmp 69) 3, 3, "wal.go:121", #[⟨3, .data⟩, ⟨6, .data⟩], none⟩) (v := ?vwap1512) rfl (by kernel_rfl) (by kernel_rfl) (by kernel_rfl) (fun _ _ _ h => h) (Or.inl ⟨by rfl, ?ywap1512⟩) hk ?rwap1512
        case ywap1512 => (intro w hSw; (try dsimp only at hSw); go_simp; first | done | with_reducible rfl)
        simp only [Act.put, List.setIfInBounds_toArray, List.set_cons_zero, List.set_cons_succ]
        refine wpAnyH_take (i := 8) (oi := ⟨some 71, .nilCheck (.tmp 63), 0, "wal.go:121", #[⟨0, .data⟩, ⟨0, .phase⟩, ⟨1, .phase⟩, ⟨2, .phase⟩, ⟨3, .phase⟩, ⟨4, .phase⟩, ⟨5, .phase⟩, ⟨6, .phase⟩, ⟨7, .phase⟩], none⟩) (v := ?vwap1513) rfl (by kernel_rfl) (by kernel_rfl) (by kernel_rfl) (fun _ _ _ h => h) (Or.inl ⟨by rfl, ?ywap1513⟩) hk ?rwap1513
        case ywap1513 => (intro w hSw; (try dsimp only at hSw); go_simp; first | done | with_reducible rfl)
        simp only [Act.put, List.setIfInBounds_toArray, List.set_cons_zero, List.set_cons_succ]
        refine wpAnyH_take (i := 9) (oi := ⟨some 72, .fieldAddr 207 (.tmp 71) 2, 0, "wal.go:121", #[⟨8, .data⟩, ⟨0, .phase⟩, ⟨1, .phase⟩, ⟨2, .phase⟩, ⟨3, .phase⟩, ⟨4, .phase⟩, ⟨5, .phase⟩, ⟨6, .phase⟩, ⟨7, .phase⟩], none⟩) (v := ?vwap1514) rfl (by kernel_rfl) (by kernel_rfl) (by kernel_rfl) (fun _ _ _ h => h) (Or.inl ⟨by rfl, ?ywap1514⟩) hk ?rwap1514
        case ywap1514 => (intro w hSw; (try dsimp only at hSw); go_simp; first | done | with_reducible rfl)
        simp only [Act.put, List.setIfInBounds_toArray, List.set_cons_zero, List.set_cons_succ]
        refine wpAnyH_ready (rs := [10]) (by decide +kernel) (by simp) ?_
        refine AllReadyH.cons (o := ⟨none, .store 3 (.tmp 72) (.tmp 70), 0, "wal.go:121", #[⟨9, .data⟩, ⟨7, .data⟩, ⟨6, .chain⟩, ⟨0, .phase⟩, ⟨1, .phase⟩, ⟨2, .phase⟩, ⟨3, .phase⟩, ⟨4, .phase⟩, ⟨5, .phase⟩, ⟨6, .phase⟩, ⟨7, .phase⟩], none⟩) rfl (fun K hK => ?_) AllReadyH.nil
        rw [if_pos (by rfl)]
        have f2 := HX.out.fr 2
        have c2 := HX.out.c2
        go_simp
        clear f2 c2
        refine hK.out _ _ hk (fun _ => ?_)
        clear hK K
        try simp only [Act.put, List.setIfInBounds_toArray, List.set_cons_zero, List.set_cons_succ]
        refine wpAnyH_done (by decide +kernel) ?_ _
        have HL9 : Bx _ := ⟨HX.out.setNext (L.next + ns fl) HTO9.out HTN9.out (by omega)⟩
        have HK9 : Bx (Kept own2 wc (wk.setCell ⟨gl, 2, none⟩ (.int .i64 ((L.next + ns fl : Nat) : Int)))) := ⟨HK.out.setCell (.inl HX.out.og) 2 _⟩
        rw [show (L.next : Int) + ((ns fl : Nat) : Int) = ((L.next + ns fl : Nat) : Int) from by omega]
        generalize wk.setCell ⟨gl, 2, none⟩ (.int .i64 ((L.next + ns fl : Nat) : Int)) = wq at HL9 HK9 ⊢
        go_wp2
        go_ret
        exact ⟨by rw [HE.out]; rfl, HFIN.out _ _ HL9.out HK9.out⟩
  · have heb : ((L.wr s b).2 != 0) = true := by simpa using hE
    have HE : Bx ((L.wr s b).2 ≠ 0) := ⟨hE⟩
    have cf := hR5.c3
    have ff := hR5.fr 3
    have HFIN : Bx (APP s L b gl gd ownD ownL w (w5.setCell ⟨gl, 3, none⟩ (.bool true))) := ⟨APP.er HGO.out hE hdj HLLT.out HB4.out HDI5.out HD5.out hR5 rfl⟩
    clear hE hR5 HB5 HD5 HDI5
    obtain ⟨E, HEE⟩ : ∃ E, Bx (E = (L.wr s b).2) := ⟨_, ⟨rfl⟩⟩
    rw [← HEE.out] at heb ⊢
    go_wp2
    go_ret
    exact ⟨by rw [HEE.out]; rfl, HFIN.out⟩
set_option maxRecDepth 100000 in
theorem append_any (gl gd : Nat) (ownD ownL : Nat → Prop) (s : DS) (L : LS) (a : Option Addr) (len cap : Nat) (b : List Int) (w : World) (hD : Dsk w gd ownD s) (hLg : LgW w gl ownL gd L) (hbt : Bts w a len cap b)
    (hfar : 0 < len → ∀ p, a = some p → ¬ ownD p.block) (hdj : ∀ k, ownL k → ¬ ownD k) (hO : s.O.length ≤ 900000) :
    Calls Tryz.prog 233 #[.pointer (some ⟨gl, 0, none⟩), .slice a len cap] w fun e w' => e = .returned (.int .i64 (apE s L b)) ∧ APP s L b gl gd ownD ownL w w' := by
  have hl := hbt.len_eq
  have hno : ∀ {w' : World}, Below w.heap.size w w' → L.go s b = false → APP s L b gl gd ownD ownL w w' := fun {w'} hb hg => ⟨ownD, ownL, by rw [(ap_no hg).1]; exact hD.below hb, by rw [(ap_no hg).2]; exact hLg.below hb, Kept.of_below hb, fun k hk => .inl hk, fun k hk => .inl hk, hdj⟩
  by_cases hbig : 16384 < len
  · refine (append_big gl gd ownD ownL s L a len cap b w hD hLg hbt hbig).mono ?_
    rintro e w' ⟨rfl, hb⟩
    refine ⟨by unfold apE; rw [if_pos (by omega)], hno hb ?_⟩
    unfold LS.go; rw [decide_eq_false (by omega)]; rfl
  · by_cases hfull : s.F.length < L.next + ns (20 + len)
    · refine (append_full gl gd ownD ownL s L a len cap b w hD hLg hbt hbig hfull).mono ?_
      rintro e w' ⟨rfl, hb⟩
      refine ⟨by unfold apE; rw [if_neg (by omega), if_pos (by rw [hl]; exact hfull)], hno hb ?_⟩
      unfold LS.go; rw [decide_eq_false (p := L.next + ns (20 + b.length) ≤ s.F.length) (by rw [hl]; omega)]; simp
    · by_cases hfd : L.failed = true
      · refine (append_failed gl gd ownD ownL s L a len cap b w hD hLg hbt hbig hfull hfd).mono ?_
        rintro e w' ⟨rfl, hb⟩
        refine ⟨by unfold apE; rw [if_neg (by omega), if_neg (by rw [hl]; exact hfull), hfd]; rfl, hno hb ?_⟩
        unfold LS.go; rw [hfd]; simp
      · have hfd' : L.failed = false := by simpa using hfd
        refine (append_go gl gd ownD ownL s L a len cap b w hD hLg hbt hbig hfull hfd' hfar hdj hO).mono ?_
        rintro e w' ⟨rfl, hA⟩
        exact ⟨by unfold apE; rw [if_neg (by omega), if_neg (by rw [hl]; exact hfull), hfd']; rfl, hA⟩
end Go.Proofs.YtipakjenggeflaaGreatDoor
namespace Go.Proofs.YtipakjenggeflaaGreatDoor
open Go.RowKit
set_option linter.unusedVariables false

/-- the log at rest that has these texts -/
def lgs (T : List (List Int)) : LS := ⟨T, (FrS 0 T).length, false⟩
set_option maxRecDepth 100000 in
theorem ap_cases {s : DS} {T : List (List Int)} {b : List Int} (h : Rest s T) (hb : Byt b) :
    (s.armed = false → (apS s (lgs T) b).armed = false) ∧ (apS s (lgs T) b).F.length = s.F.length ∧
    ((apE s (lgs T) b = 0 ∧ Rest (apS s (lgs T) b) (T ++ [b]) ∧ apL s (lgs T) b = lgs (T ++ [b]) ∧ b.length ≤ 16384 ∧ (FrS 0 T).length + ns (20 + b.length) ≤ s.F.length) ∨
     (apE s (lgs T) b = 14 ∧ s.armed = true ∧ (apS s (lgs T) b).off = true ∧ (apS s (lgs T) b).O.length ≤ s.F.length ∧ apL s (lgs T) b = ⟨T, (FrS 0 T).length, true⟩ ∧ b.length ≤ 16384 ∧ ∀ K, Lay T (app (apS s (lgs T) b).F (kpt (apS s (lgs T) b).O K)) ∨ Lay (T ++ [b]) (app (apS s (lgs T) b).F (kpt (apS s (lgs T) b).O K))) ∨
     ((apE s (lgs T) b = 5 ∨ apE s (lgs T) b = 11) ∧ apS s (lgs T) b = s ∧ apL s (lgs T) b = lgs T ∧ (16384 < b.length ∨ s.F.length < (FrS 0 T).length + ns (20 + b.length)))) := by
  by_cases hgo : (lgs T).go s b = true
  · obtain ⟨g1, g2, _⟩ := LS.go_iff.1 hgo
    have g2' : (FrS 0 T).length + ns (20 + b.length) ≤ s.F.length := g2
    obtain ⟨e1, e2⟩ := ap_yes hgo
    obtain ⟨a1, a2, a3⟩ := apW_rest h g1 hb g2'
    have hw : (lgs T).wr s b = s.apW (FrS 0 T).length (prt (frmL ((T.length : Int) + 1) b)) := rfl
    rw [← hw] at a1 a2 a3
    rw [e1, e2]
    refine ⟨fun ha => (a1 ha).2, a2, ?_⟩
    rcases a3 with ⟨b1, b2⟩ | ⟨b1, b2, b3, b4⟩
    · refine .inl ⟨b1, b2, ?_, g1, g2'⟩
      rw [ap_ok hgo b1]
      show (⟨T ++ [b], (FrS 0 T).length + ns (20 + b.length), false⟩ : LS) = ⟨T ++ [b], (FrS 0 (T ++ [b])).length, false⟩
      rw [FrS_snoc, List.length_append, chk_len, frmL_len]
    · refine .inr (.inl ⟨b1, ?_, b2, b3, ?_, g1, b4⟩)
      · cases ha : s.armed with
        | true => rfl
        | false => have := (a1 ha).1; omega
      · rw [ap_er hgo (by rw [b1]; decide)]; rfl
  · have hgo' : (lgs T).go s b = false := by simpa using hgo
    obtain ⟨e1, e2⟩ := ap_no hgo'
    rw [e1, e2]
    refine ⟨fun h => h, rfl, .inr (.inr ⟨?_, rfl, rfl, ?_⟩)⟩
    · unfold apE
      by_cases h1 : 16384 < b.length
      · rw [if_pos h1]; exact .inl rfl
      · rw [if_neg h1]
        by_cases h2 : s.F.length < (lgs T).next + ns (20 + b.length)
        · rw [if_pos h2]; exact .inr rfl
        · exact absurd (LS.go_iff.2 ⟨by omega, by omega, rfl⟩) hgo
    · by_cases h1 : 16384 < b.length
      · exact .inl h1
      · refine .inr (Classical.byContradiction fun h2 => hgo (LS.go_iff.2 ⟨by omega, ?_, rfl⟩))
        show (FrS 0 T).length + _ ≤ _
        omega
set_option maxRecDepth 100000 in
theorem rest_new (n : Nat) : Rest (dnew n) [] := ⟨rfl, rfl, TOkW.nil, n, rfl⟩
set_option maxRecDepth 100000 in
theorem Rest.now {s : DS} {T : List (List Int)} (h : Rest s T) : s.now = s.F := by unfold DS.now; rw [h.o]; rfl
set_option maxRecDepth 100000 in
theorem Rest.rd {s : DS} {T : List (List Int)} (h : Rest s T) (hok : s.Ok) : rdFW s.now = some (T, (FrS 0 T).length) := by
  rw [h.now]; exact rd_lay hok.f h.lay h.t hok.n2
end Go.Proofs.YtipakjenggeflaaGreatDoor
