/- What cut answers: a frame's pieces. What a log's write answers. What Append answers. -/
import Derived.Test.YtjnjokbdoendkaaGreatSwa
namespace Go.Proofs.YtjnjokbdoendkaaGreat
open Go.RowKit
set_option linter.unusedVariables false

set_option maxRecDepth 100000 in
set_option maxHeartbeats 1000000 in
theorem cutf_any (b off len cap : Nat) (f : List Int) (w : World) (h : Bts w (some ⟨b, off, none⟩) len cap f) (hlen : len ≤ 20000) (hp : 0 < len) :
    Calls Tryz.prog 79 #[.slice (some ⟨b, off, none⟩) len cap] w fun e w' => ∃ v, e = .returned v ∧ TL w' (fun k => k = b ∨ (w.heap.size ≤ k ∧ k < w'.heap.size)) v (prt f) ∧ Below w.heap.size w w' := by
  have hl := h.len_eq
  have hlc := h.le_cap
  have hblt := h.lt hp rfl
  have HB : Bx (Bts w (some ⟨b, off, none⟩) len cap f) := ⟨h⟩
  have HPL : Bx ((prt f).length = ns len) := ⟨by rw [prt_len, hl]⟩
  have HPG : Bx (∀ k, k < ns len → (prt f).getD k [] = (f.drop (64 * k)).take 64) := ⟨fun k hk => prt_getD f k (by rw [hl]; exact hk)⟩
  have HFL : Bx (f.length = len) := ⟨hl⟩
  have hcm := h.cap_le
  clear h hl
  obtain ⟨N, hN⟩ : ∃ N, N = w.heap.size := ⟨_, rfl⟩
  have HN : Hid (N = w.heap.size) := hN
  rw [← hN] at hblt
  have hst : TL w (fun k => k = b ∨ N ≤ k) (.slice none 0 0) ((prt f).take 0) ∧ Below N w w ∧ ∀ j, (Value.slice none 0 0).ownBlock = some j → N ≤ j := ⟨TL.nil _ _, Below.refl _ _, fun j hj => by simp [Value.ownBlock] at hj⟩
  clear hN
  go_enter Tryz.func79, Tryz.ntmps79
  go_wp2
  go_loopw [3, 4] (fun v i wr => ∃ k : Nat, k ≤ ns len ∧ i = .int .i64 (64 * (k : Int)) ∧ TL wr (fun k => k = b ∨ N ≤ k) v ((prt f).take k) ∧ Below N w wr ∧ ∀ j, v.ownBlock = some j → N ≤ j) (fun _ i _ => len + 64 - (intOf i).toNat)
  case atStart => exact ⟨0, Nat.zero_le _, rfl, hst⟩
  case round =>
    clear hst
    obtain ⟨k, hk, rfl, hT, hlow, hvb⟩ := hrel
    obtain ⟨vAll, hvAll⟩ : ∃ vAll, vAll = u3 := ⟨_, rfl⟩
    subst hvAll
    have hbw : Below w.heap.size w wr := by rw [← HN.out]; exact hlow
    have hs3 : N ≤ wr.heap.size := by rw [HN.out]; exact hbw.size
    have hns : 64 * ns len < len + 64 ∧ len ≤ 64 * ns len := by unfold ns; omega
    by_cases hlt : 64 * k < len
    · have hkI : 64 * (k : Int) < (len : Int) := by omega
      have hkn : k < ns len := by omega
      have HMO : Bx ((prt f).take (k + 1) = (prt f).take k ++ [(f.drop (64 * k)).take 64]) := ⟨by rw [take_one _ _ (by rw [HPL.out]; exact hkn), HPG.out k hkn]⟩
      have HLL : Bx (k = ((prt f).take k).length) := ⟨by rw [List.length_take, HPL.out]; omega⟩
      obtain ⟨xs, hown, HTA⟩ := hT.open
      rw [← HLL.out] at hown
      have HVB : Bx _ := ⟨hvb⟩
      have HLOW : Bx _ := ⟨hlow⟩
      have HBW := HB.out.below hbw
      obtain ⟨i0, hi, hz0, hz1, hz2⟩ := info_parts Tryz.info22
      have HFAR0 : Bx (∀ n, 0 < n → ∀ q : Addr, some (⟨b, off + 64 * k, none⟩ : Addr) = some q → (q.block = b ∨ N ≤ q.block) ∧ vAll.ownBlock ≠ some q.block) := ⟨fun _ _ q e => by cases e; exact ⟨.inl rfl, fun e2 => by have := hvb b e2; omega⟩⟩
      by_cases hend : len < 64 * k + 64
      · have HPT : Bx (Bts wr (some ⟨b, off + 64 * k, none⟩) (len - 64 * k) (len - 64 * k) ((f.drop (64 * k)).take 64)) := ⟨by
          have h1 := HBW.part (64 * k) (len - 64 * k) (len - 64 * k) (by omega) (Nat.le_refl _) (by omega)
          refine h1.list ?_
          rw [List.take_of_length_le (by rw [List.length_drop, HFL.out]; exact Nat.le_refl _), List.take_of_length_le (by rw [List.length_drop, HFL.out]; omega)]⟩
        have HFAR : Bx _ := ⟨HFAR0.out (len - 64 * k)⟩
        have hend' : (len : Int) < 64 * (k : Int) + 64 := by omega
        clear HBW hT hlow hvb
        go_wp2_with (at_builtin; refine wpList_append_lies _ rfl (.tmp 17) (.tmp 23) 57 rfl 0 46 i0 (.slice none 0 0) 1 24 Tryz.underlying57 hi hz0 hz1 hz2 rfl (by decide) _ k xs rfl (hown.alloc _) ⟨wr.heap.size, 0, none⟩ 1 1 [.slice (some ⟨b, off + 64 * k, none⟩) (len - 64 * k) (len - 64 * k)] rfl rfl (cell_one_new _ _ _) (by simp [Value.oneCell']) (by decide) (by unfold maxLen; omega) (by omega) (Nat.zero_le _) _ rfl ?_; intro g4 cap4 w4 hown4 hgr4 hl4 _)
        have hbig : (wr.alloc (.cells #[.slice (some ⟨b, off + 64 * k, none⟩) (len - 64 * k) (len - 64 * k)] 46)).heap.size = wr.heap.size + 1 := by simp
        have hg4 : N ≤ g4 := by
          rcases hl4 with h1 | h1
          · exact HVB.out g4 h1
          · rw [h1, hbig]; omega
        have hT4 := HTA.out.done HLL.out HPT.out HFAR.out hown4 hgr4 hl4 (fun _ h => h) (.inr hg4)
        have hK4 : Below N w w4 := (HLOW.out.alloc hs3 _).grown hgr4 (by rw [hbig]; omega) HVB.out
        rw [← HMO.out] at hT4
        have HG4 : Bx (∀ j, (Value.slice (some ⟨g4, 0, none⟩) (k + 1) cap4).ownBlock = some j → N ≤ j) := ⟨fun j hj => by
          have e : g4 = j := by simpa [Value.ownBlock] using hj
          omega⟩
        clear hown4 hgr4 hl4 hown hi hz0 hz1 hz2 hbig hg4
        go_roundw
        case rel => exact ⟨k + 1, by omega, by go_num, hT4, hK4, HG4.out⟩
        case measure => simp [intOf]; omega
      · have HPT : Bx (Bts wr (some ⟨b, off + 64 * k, none⟩) 64 64 ((f.drop (64 * k)).take 64)) := ⟨HBW.part (64 * k) 64 64 (by omega) (Nat.le_refl _) (by unfold maxLen; omega)⟩
        have HFAR : Bx _ := ⟨HFAR0.out 64⟩
        have hend' : ¬ (len : Int) < 64 * (k : Int) + 64 := by omega
        have k3 : (64 * (k : Int) + 64).toNat - (64 * (k : Int)).toNat = 64 := by omega
        have k4 : 64 * (k : Int) + 64 ≤ (cap : Int) := by omega
        have k5 : 64 * (k : Int) ≤ 64 * (k : Int) + 64 := by omega
        clear HBW hT hlow hvb
        go_wp2_with (at_builtin; refine wpList_append_lies _ rfl (.tmp 17) (.tmp 23) 57 rfl 0 46 i0 (.slice none 0 0) 1 24 Tryz.underlying57 hi hz0 hz1 hz2 rfl (by decide) _ k xs rfl (hown.alloc _) ⟨wr.heap.size, 0, none⟩ 1 1 [.slice (some ⟨b, off + 64 * k, none⟩) 64 64] rfl rfl (cell_one_new _ _ _) (by simp [Value.oneCell']) (by decide) (by unfold maxLen; omega) (by omega) (Nat.zero_le _) _ rfl ?_; intro g4 cap4 w4 hown4 hgr4 hl4 _)
        have hbig : (wr.alloc (.cells #[.slice (some ⟨b, off + 64 * k, none⟩) 64 64] 46)).heap.size = wr.heap.size + 1 := by simp
        have hg4 : N ≤ g4 := by
          rcases hl4 with h1 | h1
          · exact HVB.out g4 h1
          · rw [h1, hbig]; omega
        have hT4 := HTA.out.done HLL.out HPT.out HFAR.out hown4 hgr4 hl4 (fun _ h => h) (.inr hg4)
        have hK4 : Below N w w4 := (HLOW.out.alloc hs3 _).grown hgr4 (by rw [hbig]; omega) HVB.out
        rw [← HMO.out] at hT4
        have HG4 : Bx (∀ j, (Value.slice (some ⟨g4, 0, none⟩) (k + 1) cap4).ownBlock = some j → N ≤ j) := ⟨fun j hj => by
          have e : g4 = j := by simpa [Value.ownBlock] using hj
          omega⟩
        clear hown4 hgr4 hl4 hown hi hz0 hz1 hz2 hbig hg4
        go_roundw
        case rel => exact ⟨k + 1, by omega, by go_num, hT4, hK4, HG4.out⟩
        case measure => simp [intOf]; omega
    · have hkn : k = ns len := by omega
      have hkI : ¬ 64 * (k : Int) < (len : Int) := by omega
      have hT9 := hT.lst (M := prt f) (by rw [hkn, ← HPL.out]; exact List.take_length)
      have hT8 : TL wr (fun k => k = b ∨ (w.heap.size ≤ k ∧ k < wr.heap.size)) vAll (prt f) := hT9.keep (fun _ _ _ => rfl) (Nat.le_refl _) (fun k hk ho => by
        rcases ho with h1 | h1
        · exact .inl h1
        · exact .inr ⟨by rw [← HN.out]; exact h1, hk⟩)
      clear hT hT9 hkn hlow hvb
      go_wp2
      go_ret
      exact ⟨_, rfl, hT8, hbw⟩
end Go.Proofs.YtjnjokbdoendkaaGreat
namespace Go.Proofs.YtjnjokbdoendkaaGreat
open Go.RowKit
set_option linter.unusedVariables false

/-- the first piece, and a Sync -/
def apT (m : DS) (p : Nat) (b : List Int) : DS × Int := if m.wrE (p : Int) b ≠ 0 then (m.wr (p : Int) b, m.wrE (p : Int) b) else ((m.wr (p : Int) b).sy, (m.wr (p : Int) b).syE)
set_option maxRecDepth 100000 in
theorem apT_err {m : DS} {p : Nat} {b : List Int} (h : m.wrE (p : Int) b ≠ 0) : apT m p b = (m.wr (p : Int) b, m.wrE (p : Int) b) := by unfold apT; rw [if_pos h]
set_option maxRecDepth 100000 in
theorem apT_ok {m : DS} {p : Nat} {b : List Int} (h : m.wrE (p : Int) b = 0) : apT m p b = ((m.wr (p : Int) b).sy, (m.wr (p : Int) b).syE) := by unfold apT; rw [if_neg (fun k => k h)]
set_option maxRecDepth 100000 in
theorem apW_err {s s1 : DS} {p : Nat} {P : List (List Int)} {E : Int} (h : (s1, E) = wrL s (p + 1) (P.drop 1)) (hE : E ≠ 0) : s.apW p P = (s1, E) := by
  unfold DS.apW; rw [← h]; simp only []; rw [if_pos hE]
set_option maxRecDepth 100000 in
theorem apW_sy {s s1 : DS} {p : Nat} {P : List (List Int)} (h : (s1, 0) = wrL s (p + 1) (P.drop 1)) (hm : 1 < P.length) (hE : s1.syE ≠ 0) : s.apW p P = (s1.sy, s1.syE) := by
  unfold DS.apW; rw [← h]; simp only []; rw [if_neg (fun k => k rfl), if_pos hm, if_pos hE]
set_option maxRecDepth 100000 in
theorem apW_more {s s1 : DS} {p : Nat} {P : List (List Int)} (h : (s1, 0) = wrL s (p + 1) (P.drop 1)) (hm : 1 < P.length) (hE : s1.syE = 0) : s.apW p P = apT s1.sy p (P.getD 0 []) := by
  unfold DS.apW apT; rw [← h]; simp only []; rw [if_neg (fun k => k rfl), if_pos hm, if_neg (fun k => k hE)]
set_option maxRecDepth 100000 in
theorem apW_one {s : DS} {p : Nat} {P : List (List Int)} (hm : P.length = 1) : s.apW p P = apT s p (P.getD 0 []) := by
  have h : (s, (0 : Int)) = wrL s (p + 1) (P.drop 1) := by rw [List.drop_of_length_le (by omega)]; rfl
  have hm' : ¬ 1 < P.length := by omega
  unfold DS.apW apT; rw [← h]; simp only []; rw [if_neg (fun k => k rfl), if_neg hm', if_neg (fun k => k rfl)]
set_option maxRecDepth 100000 in
theorem wrL_go {s : DS} {p : Nat} {P : List (List Int)} {j : Nat} (hj : j < P.length) (h : s.wrE (p : Int) (P.getD j []) = 0) : wrL s p (P.drop j) = wrL (s.wr (p : Int) (P.getD j [])) (p + 1) (P.drop (j + 1)) := by
  rw [List.drop_eq_getElem_cons hj, wrL]
  rw [List.getD_eq_getElem?_getD, List.getElem?_eq_getElem hj] at h ⊢
  exact if_pos h
set_option maxRecDepth 100000 in
theorem wrL_er {s : DS} {p : Nat} {P : List (List Int)} {j : Nat} (hj : j < P.length) (h : s.wrE (p : Int) (P.getD j []) ≠ 0) : wrL s p (P.drop j) = (s.wr (p : Int) (P.getD j []), s.wrE (p : Int) (P.getD j [])) := by
  rw [List.drop_eq_getElem_cons hj, wrL]
  rw [List.getD_eq_getElem?_getD, List.getElem?_eq_getElem hj] at h ⊢
  exact if_neg h
set_option maxRecDepth 100000 in
theorem sy_O {s : DS} : s.sy.O.length ≤ s.O.length := by
  unfold DS.sy
  split
  · exact Nat.le_refl _
  · split
    · exact Nat.le_refl _
    · exact Nat.zero_le _
set_option maxRecDepth 100000 in
theorem cell_did {own own' : Nat → Prop} {w w' : World} {k j : Nat} {v : Value} (h : Did own w w' own') (hk : k < w.heap.size) (hno : ¬ own k) (hc : w.cell? ⟨k, j, none⟩ = some v) : w'.cell? ⟨k, j, none⟩ = some v := (World.cell?_of_block (w := w) (h.kept.block k hk hno)).trans hc
set_option maxRecDepth 100000 in
set_option maxHeartbeats 1000000 in
theorem lwrite_one1 (gl g : Nat) (own : Nat → Prop) (s : DS) (next b off m cap : Nat) (P : List (List Int)) (w : World) (hD : Dsk w g own s) (hc0 : w.cell? ⟨gl, 0, none⟩ = some (.pointer (some ⟨g, 0, none⟩))) (hc2 : w.cell? ⟨gl, 2, none⟩ = some (.int .i64 (next : Int))) (hgl : ¬ own gl)
    (hT : TxF own w (some ⟨b, off, none⟩) m cap P) (hm : m = 1) (hcap :  cap = 1) (hn : next ≤ 4096) (hO : s.O.length ≤ 900000) :
    Calls Tryz.prog 78 #[.pointer (some ⟨gl, 0, none⟩), .slice (some ⟨b, off, none⟩) m cap] w fun e w' => e = .returned (.int .i64 (s.apW next P).2) ∧ ∃ own', Dsk w' g own' (s.apW next P).1 ∧ Did own w w' own' := by
  subst hm
  have hgs : gl < w.heap.size := World.block_lt_of_cell? w _ hc0
  have HCL : Bx (∀ W own2, Did own w W own2 → W.cell? ⟨gl, 0, none⟩ = some (.pointer (some ⟨g, 0, none⟩)) ∧ W.cell? ⟨gl, 2, none⟩ = some (.int .i64 (next : Int))) := ⟨fun W own2 hd => ⟨cell_did hd hgs hgl hc0, cell_did hd hgs hgl hc2⟩⟩
  have HTX : Bx (TxF own w (some ⟨b, off, none⟩) 1 cap P) := ⟨hT⟩
  have HD0 : Bx (Dsk w g own s) := ⟨hD⟩
  have HPL : Bx (P.length = 1) := ⟨hT.len_eq⟩
  have HO0 : Bx (s.O.length ≤ 900000) := ⟨hO⟩
  have hcc := hT.le_cap
  have hcm := hT.cap_le
  unfold maxLen at hcm
  clear hD hT hO hc0 hc2 hgl hgs
  go_enter Tryz.func78, Tryz.ntmps78
  go_wp2
  go_loopw [13] (fun i wr => i = .int .i64 0 ∧ wr = w) (fun _ _ => 0)
  case atStart => exact ⟨rfl, rfl⟩
  case round =>
    obtain ⟨rfl, hwl⟩ := hrel
    obtain ⟨wl, rfl⟩ : ∃ wl, wl = wr := ⟨_, rfl⟩
    have HD1 : Bx (Dsk wl g own s) := ⟨by rw [hwl]; exact HD0.out⟩
    have HDI : Bx (Did own w wl own) := ⟨by rw [hwl]; exact Did.same (Kept.refl _ _)⟩
    have HAP : Bx (s.apW next P = apT s next (P.getD 0 [])) := ⟨apW_one HPL.out⟩
    have HOk : Bx (s.O.length ≤ 900001) := ⟨by have := HO0.out; omega⟩
    clear hwl HD0
    obtain ⟨s1, hs1⟩ : ∃ s1, s1 = s := ⟨_, rfl⟩
    obtain ⟨own1, ho1⟩ : ∃ own1, own1 = own := ⟨_, rfl⟩
    replace HAP : Bx (s.apW next P = apT s1 next (P.getD 0 [])) := ⟨by rw [hs1]; exact HAP.out⟩
    replace HD1 : Bx (Dsk wl g own1 s1) := ⟨by rw [hs1, ho1]; exact HD1.out⟩
    replace HDI : Bx (Did own w wl own1) := ⟨by rw [ho1]; exact HDI.out⟩
    replace HOk : Bx (s1.O.length ≤ 900001) := ⟨by rw [hs1]; have := HO0.out; omega⟩
    clear hs1 ho1 HO0
    -- the first piece; behind it the Sync
    obtain ⟨b9, off9, hb9, _, _, hc9⟩ := (HTX.out.did HDI.out).spot (by omega)
    obtain ⟨rfl, rfl⟩ : b = b9 ∧ off = off9 := by cases hb9; exact ⟨rfl, rfl⟩
    obtain ⟨a0, l0, c0, hc0, hbt0, hf0⟩ := hc9 0 (by omega)
    rw [Nat.add_zero] at hc0
    have HCL2 : Bx (∀ W own2, Did own w W own2 → W.cell? ⟨gl, 0, none⟩ = some (.pointer (some ⟨g, 0, none⟩)) ∧ W.cell? ⟨gl, 2, none⟩ = some (.int .i64 (next : Int)) ∧ W.cell? ⟨b, off, none⟩ = some (.slice a0 l0 c0)) := ⟨fun W own2 hd => ⟨(HCL.out W own2 hd).1, (HCL.out W own2 hd).2, by
      obtain ⟨b8, off8, hb8, hlt8, hnb8, hc8⟩ := HTX.out.spot (by omega)
      obtain ⟨rfl, rfl⟩ : b = b8 ∧ off = off8 := by cases hb8; exact ⟨rfl, rfl⟩
      obtain ⟨a1, l1, c1, hc1, _, _⟩ := hc8 0 (by omega)
      rw [Nat.add_zero] at hc1
      have h1 := cell_did HDI.out hlt8 hnb8 hc1
      rw [hc0] at h1
      rw [h1]
      exact cell_did hd hlt8 hnb8 hc1⟩⟩
    generalize P.getD 0 [] = y at hbt0 HAP
    have hk : wl.drew.cell? ⟨gl, 0, none⟩ = some (.pointer (some ⟨g, 0, none⟩)) ∧ wl.drew.cell? ⟨gl, 2, none⟩ = some (.int .i64 (next : Int)) ∧ wl.drew.cell? ⟨b, off, none⟩ = some (.slice a0 l0 c0) := ⟨(HCL.out wl own1 HDI.out).1, (HCL.out wl own1 HDI.out).2, hc0⟩
    have HDk : Bx (Dsk wl.drew g own1 s1) := ⟨HD1.out.drewN 1⟩
    have HBk : Bx (Bts wl.drew a0 l0 c0 y ∧ (0 < l0 → ∀ p, a0 = some p → ¬ own1 p.block)) := ⟨hbt0.drewN 1, hf0⟩
    replace HDI : Bx (Did own w wl.drew own1) := ⟨HDI.out.trans (Did.same ((Kept.refl own1 wl).drewN 1))⟩
    clear hc0 hc9 hbt0 hf0 hb9 HD1
    go_wp2_with fail
    refine wp_region_held_drew (S := fun W => W.cell? ⟨gl, 0, none⟩ = some (.pointer (some ⟨g, 0, none⟩)) ∧ W.cell? ⟨gl, 2, none⟩ = some (.int .i64 (next : Int)) ∧ W.cell? ⟨b, off, none⟩ = some (.slice a0 l0 c0)) (by kernel_rfl) hk (fun _ => ?_)
    generalize wl.drew = wd at hk HDk HBk HDI ⊢
    refine wpAnyH_take (i := 0) (oi := ⟨some 46, .move (.tmp 0), 81, "wal.go:147", #[], none⟩) (v := ?vlwr121) rfl (by kernel_rfl) (by kernel_rfl) (by kernel_rfl) (fun _ _ _ h => h) (Or.inl ⟨by rfl, ?ylwr121⟩) hk ?rlwr121
    case ylwr121 => (intro w hSw; (try dsimp only at hSw); go_simp; first | done | with_reducible rfl)
    simp only [Act.put, List.setIfInBounds_toArray, List.set_cons_zero, List.set_cons_succ]
    refine wpAnyH_take (i := 1) (oi := ⟨some 47, .nilCheck (.tmp 46), 0, "wal.go:147", #[⟨0, .data⟩], none⟩) (v := ?vlwr122) rfl (by kernel_rfl) (by kernel_rfl) (by kernel_rfl) (fun _ _ _ h => h) (Or.inl ⟨by rfl, ?ylwr122⟩) hk ?rlwr122
    case ylwr122 => (intro w hSw; (try dsimp only at hSw); go_simp; first | done | with_reducible rfl)
    simp only [Act.put, List.setIfInBounds_toArray, List.set_cons_zero, List.set_cons_succ]
    refine wpAnyH_take (i := 2) (oi := ⟨some 48, .fieldAddr 121 (.tmp 47) 0, 0, "wal.go:147", #[⟨1, .data⟩], none⟩) (v := ?vlwr123) rfl (by kernel_rfl) (by kernel_rfl) (by kernel_rfl) (fun _ _ _ h => h) (Or.inl ⟨by rfl, ?ylwr123⟩) hk ?rlwr123
    case ylwr123 => (intro w hSw; (try dsimp only at hSw); go_simp; first | done | with_reducible rfl)
    simp only [Act.put, List.setIfInBounds_toArray, List.set_cons_zero, List.set_cons_succ]
    refine wpAnyH_take (i := 3) (oi := ⟨some 49, .load 25 (.tmp 48), 25, "wal.go:147", #[⟨2, .data⟩], none⟩) (v := ?vlwr124) rfl (by kernel_rfl) (by kernel_rfl) (by kernel_rfl) (fun _ _ _ h => h) (Or.inl ⟨by rfl, ?ylwr124⟩) hk ?rlwr124
    case ylwr124 => (intro w hSw; have hcw := hSw.1; clear hSw; go_simp; first | done | with_reducible rfl)
    simp only [Act.put, List.setIfInBounds_toArray, List.set_cons_zero, List.set_cons_succ]
    refine wpAnyH_take (i := 4) (oi := ⟨some 50, .move (.tmp 0), 81, "wal.go:147", #[], none⟩) (v := ?vlwr125) rfl (by kernel_rfl) (by kernel_rfl) (by kernel_rfl) (fun _ _ _ h => h) (Or.inl ⟨by rfl, ?ylwr125⟩) hk ?rlwr125
    case ylwr125 => (intro w hSw; (try dsimp only at hSw); go_simp; first | done | with_reducible rfl)
    simp only [Act.put, List.setIfInBounds_toArray, List.set_cons_zero, List.set_cons_succ]
    refine wpAnyH_take (i := 5) (oi := ⟨some 51, .nilCheck (.tmp 50), 0, "wal.go:147", #[⟨4, .data⟩], none⟩) (v := ?vlwr126) rfl (by kernel_rfl) (by kernel_rfl) (by kernel_rfl) (fun _ _ _ h => h) (Or.inl ⟨by rfl, ?ylwr126⟩) hk ?rlwr126
    case ylwr126 => (intro w hSw; (try dsimp only at hSw); go_simp; first | done | with_reducible rfl)
    simp only [Act.put, List.setIfInBounds_toArray, List.set_cons_zero, List.set_cons_succ]
    refine wpAnyH_take (i := 6) (oi := ⟨some 52, .fieldAddr 121 (.tmp 51) 2, 0, "wal.go:147", #[⟨5, .data⟩], none⟩) (v := ?vlwr127) rfl (by kernel_rfl) (by kernel_rfl) (by kernel_rfl) (fun _ _ _ h => h) (Or.inl ⟨by rfl, ?ylwr127⟩) hk ?rlwr127
    case ylwr127 => (intro w hSw; (try dsimp only at hSw); go_simp; first | done | with_reducible rfl)
    simp only [Act.put, List.setIfInBounds_toArray, List.set_cons_zero, List.set_cons_succ]
    refine wpAnyH_take (i := 7) (oi := ⟨some 53, .load 3 (.tmp 52), 3, "wal.go:147", #[⟨6, .data⟩], none⟩) (v := ?vlwr128) rfl (by kernel_rfl) (by kernel_rfl) (by kernel_rfl) (fun _ _ _ h => h) (Or.inl ⟨by rfl, ?ylwr128⟩) hk ?rlwr128
    case ylwr128 => (intro w hSw; have hcw := hSw.2.1; clear hSw; go_simp; first | done | with_reducible rfl)
    simp only [Act.put, List.setIfInBounds_toArray, List.set_cons_zero, List.set_cons_succ]
    refine wpAnyH_take (i := 8) (oi := ⟨some 54, .move (.tmp 1), 57, "wal.go:147", #[], none⟩) (v := ?vlwr129) rfl (by kernel_rfl) (by kernel_rfl) (by kernel_rfl) (fun _ _ _ h => h) (Or.inl ⟨by rfl, ?ylwr129⟩) hk ?rlwr129
    case ylwr129 => (intro w hSw; (try dsimp only at hSw); go_simp; first | done | with_reducible rfl)
    simp only [Act.put, List.setIfInBounds_toArray, List.set_cons_zero, List.set_cons_succ]
    refine wpAnyH_take (i := 9) (oi := ⟨some 55, .indexAddr 57 (.tmp 54) (.const (Value.int IntKind.i64 0)), 0, "wal.go:147", #[⟨8, .data⟩], none⟩) (v := ?vlwr1210) rfl (by kernel_rfl) (by kernel_rfl) (by kernel_rfl) (fun _ _ _ h => h) (Or.inl ⟨by rfl, ?ylwr1210⟩) hk ?rlwr1210
    case ylwr1210 => (intro w hSw; (try dsimp only at hSw); go_simp; first | done | with_reducible rfl)
    simp only [Act.put, List.setIfInBounds_toArray, List.set_cons_zero, List.set_cons_succ]
    refine wpAnyH_take (i := 10) (oi := ⟨some 56, .load 46 (.tmp 55), 46, "wal.go:147", #[⟨9, .data⟩], none⟩) (v := ?vlwr1211) rfl (by kernel_rfl) (by kernel_rfl) (by kernel_rfl) (fun _ _ _ h => h) (Or.inl ⟨by rfl, ?ylwr1211⟩) hk ?rlwr1211
    case ylwr1211 => (intro w hSw; have hcw := hSw.2.2; clear hSw; go_simp; first | done | with_reducible rfl)
    simp only [Act.put, List.setIfInBounds_toArray, List.set_cons_zero, List.set_cons_succ]
    refine wpAnyH_ready (rs := [11]) (by decide +kernel) (by simp) ?_
    refine AllReadyH.cons (o := ⟨some 57, .call { callee := .value (.func 96), args := #[.tmp 49, .tmp 53, .tmp 56], argTypes := #[25, 3, 46] }, 26, "wal.go:147", #[⟨3, .data⟩, ⟨7, .data⟩, ⟨10, .data⟩], none⟩) rfl (fun K hK => ?_) AllReadyH.nil
    go_simp
    refine (write_any g own1 s1 _ a0 l0 c0 y _ HDk.out HBk.out.1 HBk.out.2 (by have := HOk.out; omega)).mono ?_
    rintro e1 w8 ⟨rfl, own3, hD3, hdid3⟩
    replace hk : w8.cell? ⟨gl, 0, none⟩ = some (.pointer (some ⟨g, 0, none⟩)) ∧ w8.cell? ⟨gl, 2, none⟩ = some (.int .i64 (next : Int)) ∧ w8.cell? ⟨b, off, none⟩ = some (.slice a0 l0 c0) := HCL2.out w8 own3 (HDI.out.trans hdid3)
    have HD3 : Bx _ := ⟨hD3⟩
    have HDI3 : Bx _ := ⟨HDI.out.trans hdid3⟩
    clear hD3 hdid3
    refine hK.out _ _ hk (fun _ => ?_)
    clear hK K
    try simp only [Act.put, List.setIfInBounds_toArray, List.set_cons_zero, List.set_cons_succ]
    refine wpAnyH_take (i := 12) (oi := ⟨some 9, .assign (.tmp 57), 26, "wal.go:147", #[⟨11, .data⟩, ⟨11, .chain⟩, ⟨0, .phase⟩, ⟨1, .phase⟩, ⟨2, .phase⟩, ⟨3, .phase⟩, ⟨4, .phase⟩, ⟨5, .phase⟩, ⟨6, .phase⟩, ⟨7, .phase⟩, ⟨8, .phase⟩, ⟨9, .phase⟩, ⟨10, .phase⟩, ⟨11, .phase⟩], none⟩) (v := ?vlwr1212) rfl (by kernel_rfl) (by kernel_rfl) (by kernel_rfl) (fun _ _ _ h => h) (Or.inl ⟨by rfl, ?ylwr1212⟩) hk ?rlwr1212
    case ylwr1212 => (intro w hSw; (try dsimp only at hSw); go_simp; first | done | with_reducible rfl)
    simp only [Act.put, List.setIfInBounds_toArray, List.set_cons_zero, List.set_cons_succ]
    refine wpAnyH_done (by decide +kernel) ?_ _
    clear HDk HBk HDI
    by_cases he : s1.wrE (next : Int) y = 0
    · have HA : Bx (s.apW next P = ((s1.wr (next : Int) y).sy, (s1.wr (next : Int) y).syE)) := ⟨by rw [HAP.out]; exact apT_ok he⟩
      rw [he]
      have HO3 : Bx ((s1.wr (next : Int) y).O.length ≤ 1000000) := ⟨by have := wr_O (s := s1) (next : Int) y; have := HOk.out; omega⟩
      clear he HAP
      generalize s1.wr (next : Int) y = s3 at HA HD3 HO3
      obtain ⟨k1, k2, k3⟩ := hk
      go_wp2_with fail
      refine (sync_any g own3 s3 _ HD3.out HO3.out).mono ?_
      rintro e w9 ⟨rfl, hD9, hk9⟩
      have HD9 : Bx _ := ⟨hD9⟩
      have HDI9 : Bx _ := ⟨HDI3.out.trans (Did.same hk9)⟩
      clear hD9 hk9 k1 k2 k3
      go_wp2
      go_ret
      exact ⟨by rw [HA.out]; rfl, own3, by rw [HA.out]; exact HD9.out, HDI9.out⟩
    · have HA : Bx (s.apW next P = (s1.wr (next : Int) y, s1.wrE (next : Int) y)) := ⟨by rw [HAP.out]; exact apT_err he⟩
      have heb : (s1.wrE (next : Int) y != 0) = true := by simpa using he
      clear he HAP hk
      generalize s1.wrE (next : Int) y = E at HA heb ⊢
      go_wp2
      go_ret
      exact ⟨by rw [HA.out]; rfl, own3, by rw [HA.out]; exact HD3.out, HDI3.out⟩
set_option maxRecDepth 100000 in
set_option maxHeartbeats 1000000 in
theorem lwrite_one2 (gl g : Nat) (own : Nat → Prop) (s : DS) (next b off m cap : Nat) (P : List (List Int)) (w : World) (hD : Dsk w g own s) (hc0 : w.cell? ⟨gl, 0, none⟩ = some (.pointer (some ⟨g, 0, none⟩))) (hc2 : w.cell? ⟨gl, 2, none⟩ = some (.int .i64 (next : Int))) (hgl : ¬ own gl)
    (hT : TxF own w (some ⟨b, off, none⟩) m cap P) (hm : m = 1) (hcap : ¬ cap = 1) (hn : next ≤ 4096) (hO : s.O.length ≤ 900000) :
    Calls Tryz.prog 78 #[.pointer (some ⟨gl, 0, none⟩), .slice (some ⟨b, off, none⟩) m cap] w fun e w' => e = .returned (.int .i64 (s.apW next P).2) ∧ ∃ own', Dsk w' g own' (s.apW next P).1 ∧ Did own w w' own' := by
  subst hm
  have hgs : gl < w.heap.size := World.block_lt_of_cell? w _ hc0
  have HCL : Bx (∀ W own2, Did own w W own2 → W.cell? ⟨gl, 0, none⟩ = some (.pointer (some ⟨g, 0, none⟩)) ∧ W.cell? ⟨gl, 2, none⟩ = some (.int .i64 (next : Int))) := ⟨fun W own2 hd => ⟨cell_did hd hgs hgl hc0, cell_did hd hgs hgl hc2⟩⟩
  have HTX : Bx (TxF own w (some ⟨b, off, none⟩) 1 cap P) := ⟨hT⟩
  have HD0 : Bx (Dsk w g own s) := ⟨hD⟩
  have HPL : Bx (P.length = 1) := ⟨hT.len_eq⟩
  have HO0 : Bx (s.O.length ≤ 900000) := ⟨hO⟩
  have hcc := hT.le_cap
  have hcm := hT.cap_le
  unfold maxLen at hcm
  clear hD hT hO hc0 hc2 hgl hgs
  go_enter Tryz.func78, Tryz.ntmps78
  go_wp2
  go_loopw [13] (fun i wr => i = .int .i64 0 ∧ wr = w) (fun _ _ => 0)
  case atStart => exact ⟨rfl, rfl⟩
  case round =>
    obtain ⟨rfl, hwl⟩ := hrel
    obtain ⟨wl, rfl⟩ : ∃ wl, wl = wr := ⟨_, rfl⟩
    have HD1 : Bx (Dsk wl g own s) := ⟨by rw [hwl]; exact HD0.out⟩
    have HDI : Bx (Did own w wl own) := ⟨by rw [hwl]; exact Did.same (Kept.refl _ _)⟩
    have HAP : Bx (s.apW next P = apT s next (P.getD 0 [])) := ⟨apW_one HPL.out⟩
    have HOk : Bx (s.O.length ≤ 900001) := ⟨by have := HO0.out; omega⟩
    clear hwl HD0
    obtain ⟨s1, hs1⟩ : ∃ s1, s1 = s := ⟨_, rfl⟩
    obtain ⟨own1, ho1⟩ : ∃ own1, own1 = own := ⟨_, rfl⟩
    replace HAP : Bx (s.apW next P = apT s1 next (P.getD 0 [])) := ⟨by rw [hs1]; exact HAP.out⟩
    replace HD1 : Bx (Dsk wl g own1 s1) := ⟨by rw [hs1, ho1]; exact HD1.out⟩
    replace HDI : Bx (Did own w wl own1) := ⟨by rw [ho1]; exact HDI.out⟩
    replace HOk : Bx (s1.O.length ≤ 900001) := ⟨by rw [hs1]; have := HO0.out; omega⟩
    clear hs1 ho1 HO0
    -- the first piece; behind it the Sync
    obtain ⟨b9, off9, hb9, _, _, hc9⟩ := (HTX.out.did HDI.out).spot (by omega)
    obtain ⟨rfl, rfl⟩ : b = b9 ∧ off = off9 := by cases hb9; exact ⟨rfl, rfl⟩
    obtain ⟨a0, l0, c0, hc0, hbt0, hf0⟩ := hc9 0 (by omega)
    rw [Nat.add_zero] at hc0
    have HCL2 : Bx (∀ W own2, Did own w W own2 → W.cell? ⟨gl, 0, none⟩ = some (.pointer (some ⟨g, 0, none⟩)) ∧ W.cell? ⟨gl, 2, none⟩ = some (.int .i64 (next : Int)) ∧ W.cell? ⟨b, off, none⟩ = some (.slice a0 l0 c0)) := ⟨fun W own2 hd => ⟨(HCL.out W own2 hd).1, (HCL.out W own2 hd).2, by
      obtain ⟨b8, off8, hb8, hlt8, hnb8, hc8⟩ := HTX.out.spot (by omega)
      obtain ⟨rfl, rfl⟩ : b = b8 ∧ off = off8 := by cases hb8; exact ⟨rfl, rfl⟩
      obtain ⟨a1, l1, c1, hc1, _, _⟩ := hc8 0 (by omega)
      rw [Nat.add_zero] at hc1
      have h1 := cell_did HDI.out hlt8 hnb8 hc1
      rw [hc0] at h1
      rw [h1]
      exact cell_did hd hlt8 hnb8 hc1⟩⟩
    generalize P.getD 0 [] = y at hbt0 HAP
    have hk : wl.drew.cell? ⟨gl, 0, none⟩ = some (.pointer (some ⟨g, 0, none⟩)) ∧ wl.drew.cell? ⟨gl, 2, none⟩ = some (.int .i64 (next : Int)) ∧ wl.drew.cell? ⟨b, off, none⟩ = some (.slice a0 l0 c0) := ⟨(HCL.out wl own1 HDI.out).1, (HCL.out wl own1 HDI.out).2, hc0⟩
    have HDk : Bx (Dsk wl.drew g own1 s1) := ⟨HD1.out.drewN 1⟩
    have HBk : Bx (Bts wl.drew a0 l0 c0 y ∧ (0 < l0 → ∀ p, a0 = some p → ¬ own1 p.block)) := ⟨hbt0.drewN 1, hf0⟩
    replace HDI : Bx (Did own w wl.drew own1) := ⟨HDI.out.trans (Did.same ((Kept.refl own1 wl).drewN 1))⟩
    clear hc0 hc9 hbt0 hf0 hb9 HD1
    go_wp2_with fail
    refine wp_region_held_drew (S := fun W => W.cell? ⟨gl, 0, none⟩ = some (.pointer (some ⟨g, 0, none⟩)) ∧ W.cell? ⟨gl, 2, none⟩ = some (.int .i64 (next : Int)) ∧ W.cell? ⟨b, off, none⟩ = some (.slice a0 l0 c0)) (by kernel_rfl) hk (fun _ => ?_)
    generalize wl.drew = wd at hk HDk HBk HDI ⊢
    refine wpAnyH_take (i := 0) (oi := ⟨some 46, .move (.tmp 0), 81, "wal.go:147", #[], none⟩) (v := ?vlwr121) rfl (by kernel_rfl) (by kernel_rfl) (by kernel_rfl) (fun _ _ _ h => h) (Or.inl ⟨by rfl, ?ylwr121⟩) hk ?rlwr121
    case ylwr121 => (intro w hSw; (try dsimp only at hSw); go_simp; first | done | with_reducible rfl)
    simp only [Act.put, List.setIfInBounds_toArray, List.set_cons_zero, List.set_cons_succ]
    refine wpAnyH_take (i := 1) (oi := ⟨some 47, .nilCheck (.tmp 46), 0, "wal.go:147", #[⟨0, .data⟩], none⟩) (v := ?vlwr122) rfl (by kernel_rfl) (by kernel_rfl) (by kernel_rfl) (fun _ _ _ h => h) (Or.inl ⟨by rfl, ?ylwr122⟩) hk ?rlwr122
    case ylwr122 => (intro w hSw; (try dsimp only at hSw); go_simp; first | done | with_reducible rfl)
    simp only [Act.put, List.setIfInBounds_toArray, List.set_cons_zero, List.set_cons_succ]
    refine wpAnyH_take (i := 2) (oi := ⟨some 48, .fieldAddr 121 (.tmp 47) 0, 0, "wal.go:147", #[⟨1, .data⟩], none⟩) (v := ?vlwr123) rfl (by kernel_rfl) (by kernel_rfl) (by kernel_rfl) (fun _ _ _ h => h) (Or.inl ⟨by rfl, ?ylwr123⟩) hk ?rlwr123
    case ylwr123 => (intro w hSw; (try dsimp only at hSw); go_simp; first | done | with_reducible rfl)
    simp only [Act.put, List.setIfInBounds_toArray, List.set_cons_zero, List.set_cons_succ]
    refine wpAnyH_take (i := 3) (oi := ⟨some 49, .load 25 (.tmp 48), 25, "wal.go:147", #[⟨2, .data⟩], none⟩) (v := ?vlwr124) rfl (by kernel_rfl) (by kernel_rfl) (by kernel_rfl) (fun _ _ _ h => h) (Or.inl ⟨by rfl, ?ylwr124⟩) hk ?rlwr124
    case ylwr124 => (intro w hSw; have hcw := hSw.1; clear hSw; go_simp; first | done | with_reducible rfl)
    simp only [Act.put, List.setIfInBounds_toArray, List.set_cons_zero, List.set_cons_succ]
    refine wpAnyH_take (i := 4) (oi := ⟨some 50, .move (.tmp 0), 81, "wal.go:147", #[], none⟩) (v := ?vlwr125) rfl (by kernel_rfl) (by kernel_rfl) (by kernel_rfl) (fun _ _ _ h => h) (Or.inl ⟨by rfl, ?ylwr125⟩) hk ?rlwr125
    case ylwr125 => (intro w hSw; (try dsimp only at hSw); go_simp; first | done | with_reducible rfl)
    simp only [Act.put, List.setIfInBounds_toArray, List.set_cons_zero, List.set_cons_succ]
    refine wpAnyH_take (i := 5) (oi := ⟨some 51, .nilCheck (.tmp 50), 0, "wal.go:147", #[⟨4, .data⟩], none⟩) (v := ?vlwr126) rfl (by kernel_rfl) (by kernel_rfl) (by kernel_rfl) (fun _ _ _ h => h) (Or.inl ⟨by rfl, ?ylwr126⟩) hk ?rlwr126
    case ylwr126 => (intro w hSw; (try dsimp only at hSw); go_simp; first | done | with_reducible rfl)
    simp only [Act.put, List.setIfInBounds_toArray, List.set_cons_zero, List.set_cons_succ]
    refine wpAnyH_take (i := 6) (oi := ⟨some 52, .fieldAddr 121 (.tmp 51) 2, 0, "wal.go:147", #[⟨5, .data⟩], none⟩) (v := ?vlwr127) rfl (by kernel_rfl) (by kernel_rfl) (by kernel_rfl) (fun _ _ _ h => h) (Or.inl ⟨by rfl, ?ylwr127⟩) hk ?rlwr127
    case ylwr127 => (intro w hSw; (try dsimp only at hSw); go_simp; first | done | with_reducible rfl)
    simp only [Act.put, List.setIfInBounds_toArray, List.set_cons_zero, List.set_cons_succ]
    refine wpAnyH_take (i := 7) (oi := ⟨some 53, .load 3 (.tmp 52), 3, "wal.go:147", #[⟨6, .data⟩], none⟩) (v := ?vlwr128) rfl (by kernel_rfl) (by kernel_rfl) (by kernel_rfl) (fun _ _ _ h => h) (Or.inl ⟨by rfl, ?ylwr128⟩) hk ?rlwr128
    case ylwr128 => (intro w hSw; have hcw := hSw.2.1; clear hSw; go_simp; first | done | with_reducible rfl)
    simp only [Act.put, List.setIfInBounds_toArray, List.set_cons_zero, List.set_cons_succ]
    refine wpAnyH_take (i := 8) (oi := ⟨some 54, .move (.tmp 1), 57, "wal.go:147", #[], none⟩) (v := ?vlwr129) rfl (by kernel_rfl) (by kernel_rfl) (by kernel_rfl) (fun _ _ _ h => h) (Or.inl ⟨by rfl, ?ylwr129⟩) hk ?rlwr129
    case ylwr129 => (intro w hSw; (try dsimp only at hSw); go_simp; first | done | with_reducible rfl)
    simp only [Act.put, List.setIfInBounds_toArray, List.set_cons_zero, List.set_cons_succ]
    refine wpAnyH_take (i := 9) (oi := ⟨some 55, .indexAddr 57 (.tmp 54) (.const (Value.int IntKind.i64 0)), 0, "wal.go:147", #[⟨8, .data⟩], none⟩) (v := ?vlwr1210) rfl (by kernel_rfl) (by kernel_rfl) (by kernel_rfl) (fun _ _ _ h => h) (Or.inl ⟨by rfl, ?ylwr1210⟩) hk ?rlwr1210
    case ylwr1210 => (intro w hSw; (try dsimp only at hSw); go_simp; first | done | with_reducible rfl)
    simp only [Act.put, List.setIfInBounds_toArray, List.set_cons_zero, List.set_cons_succ]
    refine wpAnyH_take (i := 10) (oi := ⟨some 56, .load 46 (.tmp 55), 46, "wal.go:147", #[⟨9, .data⟩], none⟩) (v := ?vlwr1211) rfl (by kernel_rfl) (by kernel_rfl) (by kernel_rfl) (fun _ _ _ h => h) (Or.inl ⟨by rfl, ?ylwr1211⟩) hk ?rlwr1211
    case ylwr1211 => (intro w hSw; have hcw := hSw.2.2; clear hSw; go_simp; first | done | with_reducible rfl)
    simp only [Act.put, List.setIfInBounds_toArray, List.set_cons_zero, List.set_cons_succ]
    refine wpAnyH_ready (rs := [11]) (by decide +kernel) (by simp) ?_
    refine AllReadyH.cons (o := ⟨some 57, .call { callee := .value (.func 96), args := #[.tmp 49, .tmp 53, .tmp 56], argTypes := #[25, 3, 46] }, 26, "wal.go:147", #[⟨3, .data⟩, ⟨7, .data⟩, ⟨10, .data⟩], none⟩) rfl (fun K hK => ?_) AllReadyH.nil
    go_simp
    refine (write_any g own1 s1 _ a0 l0 c0 y _ HDk.out HBk.out.1 HBk.out.2 (by have := HOk.out; omega)).mono ?_
    rintro e1 w8 ⟨rfl, own3, hD3, hdid3⟩
    replace hk : w8.cell? ⟨gl, 0, none⟩ = some (.pointer (some ⟨g, 0, none⟩)) ∧ w8.cell? ⟨gl, 2, none⟩ = some (.int .i64 (next : Int)) ∧ w8.cell? ⟨b, off, none⟩ = some (.slice a0 l0 c0) := HCL2.out w8 own3 (HDI.out.trans hdid3)
    have HD3 : Bx _ := ⟨hD3⟩
    have HDI3 : Bx _ := ⟨HDI.out.trans hdid3⟩
    clear hD3 hdid3
    refine hK.out _ _ hk (fun _ => ?_)
    clear hK K
    try simp only [Act.put, List.setIfInBounds_toArray, List.set_cons_zero, List.set_cons_succ]
    refine wpAnyH_take (i := 12) (oi := ⟨some 9, .assign (.tmp 57), 26, "wal.go:147", #[⟨11, .data⟩, ⟨11, .chain⟩, ⟨0, .phase⟩, ⟨1, .phase⟩, ⟨2, .phase⟩, ⟨3, .phase⟩, ⟨4, .phase⟩, ⟨5, .phase⟩, ⟨6, .phase⟩, ⟨7, .phase⟩, ⟨8, .phase⟩, ⟨9, .phase⟩, ⟨10, .phase⟩, ⟨11, .phase⟩], none⟩) (v := ?vlwr1212) rfl (by kernel_rfl) (by kernel_rfl) (by kernel_rfl) (fun _ _ _ h => h) (Or.inl ⟨by rfl, ?ylwr1212⟩) hk ?rlwr1212
    case ylwr1212 => (intro w hSw; (try dsimp only at hSw); go_simp; first | done | with_reducible rfl)
    simp only [Act.put, List.setIfInBounds_toArray, List.set_cons_zero, List.set_cons_succ]
    refine wpAnyH_done (by decide +kernel) ?_ _
    clear HDk HBk HDI
    by_cases he : s1.wrE (next : Int) y = 0
    · have HA : Bx (s.apW next P = ((s1.wr (next : Int) y).sy, (s1.wr (next : Int) y).syE)) := ⟨by rw [HAP.out]; exact apT_ok he⟩
      rw [he]
      have HO3 : Bx ((s1.wr (next : Int) y).O.length ≤ 1000000) := ⟨by have := wr_O (s := s1) (next : Int) y; have := HOk.out; omega⟩
      clear he HAP
      generalize s1.wr (next : Int) y = s3 at HA HD3 HO3
      obtain ⟨k1, k2, k3⟩ := hk
      go_wp2_with fail
      refine (sync_any g own3 s3 _ HD3.out HO3.out).mono ?_
      rintro e w9 ⟨rfl, hD9, hk9⟩
      have HD9 : Bx _ := ⟨hD9⟩
      have HDI9 : Bx _ := ⟨HDI3.out.trans (Did.same hk9)⟩
      clear hD9 hk9 k1 k2 k3
      go_wp2
      go_ret
      exact ⟨by rw [HA.out]; rfl, own3, by rw [HA.out]; exact HD9.out, HDI9.out⟩
    · have HA : Bx (s.apW next P = (s1.wr (next : Int) y, s1.wrE (next : Int) y)) := ⟨by rw [HAP.out]; exact apT_err he⟩
      have heb : (s1.wrE (next : Int) y != 0) = true := by simpa using he
      clear he HAP hk
      generalize s1.wrE (next : Int) y = E at HA heb ⊢
      go_wp2
      go_ret
      exact ⟨by rw [HA.out]; rfl, own3, by rw [HA.out]; exact HD3.out, HDI3.out⟩
set_option maxRecDepth 100000 in
set_option maxHeartbeats 2000000 in
theorem lwrite_more (gl g : Nat) (own : Nat → Prop) (s : DS) (next b off m cap : Nat) (P : List (List Int)) (w : World) (hD : Dsk w g own s) (hc0 : w.cell? ⟨gl, 0, none⟩ = some (.pointer (some ⟨g, 0, none⟩))) (hc2 : w.cell? ⟨gl, 2, none⟩ = some (.int .i64 (next : Int))) (hgl : ¬ own gl)
    (hT : TxF own w (some ⟨b, off, none⟩) m cap P) (hm : 1 < m) (hm2 : m ≤ 1000) (hn : next ≤ 4096) (hO : s.O.length ≤ 900000) :
    Calls Tryz.prog 78 #[.pointer (some ⟨gl, 0, none⟩), .slice (some ⟨b, off, none⟩) m cap] w fun e w' => e = .returned (.int .i64 (s.apW next P).2) ∧ ∃ own', Dsk w' g own' (s.apW next P).1 ∧ Did own w w' own' := by
  have hcap : ¬ cap = 1 := by have := hT.le_cap; omega
  have hm1 : (1 : Int) ≤ (m : Int) := by omega
  have hm0 : 0 < m := by omega
  have hgs : gl < w.heap.size := World.block_lt_of_cell? w _ hc0
  have HCL : Bx (∀ W own2, Did own w W own2 → W.cell? ⟨gl, 0, none⟩ = some (.pointer (some ⟨g, 0, none⟩)) ∧ W.cell? ⟨gl, 2, none⟩ = some (.int .i64 (next : Int))) := ⟨fun W own2 hd => ⟨cell_did hd hgs hgl hc0, cell_did hd hgs hgl hc2⟩⟩
  have HTX : Bx (TxF own w (some ⟨b, off, none⟩) m cap P) := ⟨hT⟩
  have HD0 : Bx (Dsk w g own s) := ⟨hD⟩
  have HPL : Bx (P.length = m) := ⟨hT.len_eq⟩
  have HO0 : Bx (s.O.length ≤ 900000) := ⟨hO⟩
  have hcc := hT.le_cap
  have hcm := hT.cap_le
  unfold maxLen at hcm
  clear hD hT hO hc0 hc2 hgl hgs
  go_enter Tryz.func78, Tryz.ntmps78
  go_wp2
  go_loopw [13] (fun i wr => ∃ (k : Nat) (s1 : DS) (own1 : Nat → Prop), k ≤ m - 1 ∧ i = .int .i64 (k : Int) ∧ Bx (wrL s1 (next + 1 + k) (P.drop (1 + k)) = wrL s (next + 1) (P.drop 1)) ∧ Bx (s1.O.length ≤ 900000 + k) ∧ Bx (Dsk wr g own1 s1) ∧ Bx (Did own w wr own1)) (fun i _ => m - (intOf i).toNat)
  case atStart => exact ⟨0, s, own, Nat.zero_le _, rfl, ⟨rfl⟩, ⟨by have := HO0.out; omega⟩, HD0, ⟨Did.same (Kept.refl _ _)⟩⟩
  case round =>
    obtain ⟨k, s1, own1, hk1, rfl, HW, HOk, HD1, HDI⟩ := hrel
    clear HD0
    by_cases hlt : k < m - 1
    · have hkI : (k : Int) < ((m - 1 : Nat) : Int) := by omega
      obtain ⟨b9, off9, hb9, _, _, hc9⟩ := (HTX.out.did HDI.out).spot (by omega)
      obtain ⟨rfl, rfl⟩ : b = b9 ∧ off = off9 := by cases hb9; exact ⟨rfl, rfl⟩
      obtain ⟨ak, lk, ck, hck, hbtk, hfk⟩ := hc9 (1 + k) (by omega)
      rw [← Nat.add_assoc] at hck
      have HGO : Bx (s1.wrE ((next + 1 + k : Nat) : Int) (P.getD (1 + k) []) = 0 → wrL (s1.wr ((next + 1 + k : Nat) : Int) (P.getD (1 + k) [])) (next + 1 + (k + 1)) (P.drop (1 + (k + 1))) = wrL s (next + 1) (P.drop 1)) := ⟨fun he => by
        rw [← HW.out, wrL_go (by rw [HPL.out]; omega) he]; rfl⟩
      have HER : Bx (s1.wrE ((next + 1 + k : Nat) : Int) (P.getD (1 + k) []) ≠ 0 → s.apW next P = (s1.wr ((next + 1 + k : Nat) : Int) (P.getD (1 + k) []), s1.wrE ((next + 1 + k : Nat) : Int) (P.getD (1 + k) []))) := ⟨fun he => by
        refine apW_err ?_ he
        rw [← HW.out, wrL_er (by rw [HPL.out]; omega) he]⟩
      generalize P.getD (1 + k) [] = y at hbtk HGO HER
      have hk : wr.drew.cell? ⟨gl, 0, none⟩ = some (.pointer (some ⟨g, 0, none⟩)) ∧ wr.drew.cell? ⟨gl, 2, none⟩ = some (.int .i64 (next : Int)) := ⟨(HCL.out wr own1 HDI.out).1, (HCL.out wr own1 HDI.out).2⟩
      have HDk : Bx (Dsk wr.drew g own1 s1) := ⟨HD1.out.drewN 1⟩
      have HBk : Bx (Bts wr.drew ak lk ck y ∧ (0 < lk → ∀ p, ak = some p → ¬ own1 p.block)) := ⟨hbtk.drewN 1, hfk⟩
      replace HDI : Bx (Did own w wr.drew own1) := ⟨HDI.out.trans (Did.same ((Kept.refl own1 wr).drewN 1))⟩
      have hw1 : IntKind.i64.wrap ((next : Int) + 1) = (next : Int) + 1 := IntWalk.i64_in _ (by omega)
      have hw2 : IntKind.i64.wrap ((next : Int) + 1 + (k : Int)) = (next : Int) + 1 + (k : Int) := IntWalk.i64_in _ (by omega)
      clear hc9 hbtk hfk hb9 HD1 HW
      go_wp2_with fail
      clear hck
      refine wp_region_held_drew (S := fun W => W.cell? ⟨gl, 0, none⟩ = some (.pointer (some ⟨g, 0, none⟩)) ∧ W.cell? ⟨gl, 2, none⟩ = some (.int .i64 (next : Int))) (by kernel_rfl) hk (fun _ => ?_)
      generalize wr.drew = wd at hk HDk HBk HDI ⊢
      refine wpAnyH_take (i := 0) (oi := ⟨some 18, .move (.tmp 0), 81, "wal.go:138", #[], none⟩) (v := ?vlwr41) rfl (by kernel_rfl) (by kernel_rfl) (by kernel_rfl) (fun _ _ _ h => h) (Or.inl ⟨by rfl, ?ylwr41⟩) hk ?rlwr41
      case ylwr41 => (intro w hSw; (try dsimp only at hSw); go_simp; first | done | with_reducible rfl)
      simp only [Act.put, List.setIfInBounds_toArray, List.set_cons_zero, List.set_cons_succ]
      refine wpAnyH_take (i := 1) (oi := ⟨some 19, .nilCheck (.tmp 18), 0, "wal.go:138", #[⟨0, .data⟩], none⟩) (v := ?vlwr42) rfl (by kernel_rfl) (by kernel_rfl) (by kernel_rfl) (fun _ _ _ h => h) (Or.inl ⟨by rfl, ?ylwr42⟩) hk ?rlwr42
      case ylwr42 => (intro w hSw; (try dsimp only at hSw); go_simp; first | done | with_reducible rfl)
      simp only [Act.put, List.setIfInBounds_toArray, List.set_cons_zero, List.set_cons_succ]
      refine wpAnyH_take (i := 2) (oi := ⟨some 20, .fieldAddr 121 (.tmp 19) 0, 0, "wal.go:138", #[⟨1, .data⟩], none⟩) (v := ?vlwr43) rfl (by kernel_rfl) (by kernel_rfl) (by kernel_rfl) (fun _ _ _ h => h) (Or.inl ⟨by rfl, ?ylwr43⟩) hk ?rlwr43
      case ylwr43 => (intro w hSw; (try dsimp only at hSw); go_simp; first | done | with_reducible rfl)
      simp only [Act.put, List.setIfInBounds_toArray, List.set_cons_zero, List.set_cons_succ]
      refine wpAnyH_take (i := 3) (oi := ⟨some 21, .load 25 (.tmp 20), 25, "wal.go:138", #[⟨2, .data⟩], none⟩) (v := ?vlwr44) rfl (by kernel_rfl) (by kernel_rfl) (by kernel_rfl) (fun _ _ _ h => h) (Or.inl ⟨by rfl, ?ylwr44⟩) hk ?rlwr44
      case ylwr44 => (intro w hSw; have hcw := hSw.1; clear hSw; go_simp; first | done | with_reducible rfl)
      simp only [Act.put, List.setIfInBounds_toArray, List.set_cons_zero, List.set_cons_succ]
      refine wpAnyH_take (i := 4) (oi := ⟨some 22, .move (.tmp 0), 81, "wal.go:138", #[], none⟩) (v := ?vlwr45) rfl (by kernel_rfl) (by kernel_rfl) (by kernel_rfl) (fun _ _ _ h => h) (Or.inl ⟨by rfl, ?ylwr45⟩) hk ?rlwr45
      case ylwr45 => (intro w hSw; (try dsimp only at hSw); go_simp; first | done | with_reducible rfl)
      simp only [Act.put, List.setIfInBounds_toArray, List.set_cons_zero, List.set_cons_succ]
      refine wpAnyH_take (i := 5) (oi := ⟨some 23, .nilCheck (.tmp 22), 0, "wal.go:138", #[⟨4, .data⟩], none⟩) (v := ?vlwr46) rfl (by kernel_rfl) (by kernel_rfl) (by kernel_rfl) (fun _ _ _ h => h) (Or.inl ⟨by rfl, ?ylwr46⟩) hk ?rlwr46
      case ylwr46 => (intro w hSw; (try dsimp only at hSw); go_simp; first | done | with_reducible rfl)
      simp only [Act.put, List.setIfInBounds_toArray, List.set_cons_zero, List.set_cons_succ]
      refine wpAnyH_take (i := 6) (oi := ⟨some 24, .fieldAddr 121 (.tmp 23) 2, 0, "wal.go:138", #[⟨5, .data⟩], none⟩) (v := ?vlwr47) rfl (by kernel_rfl) (by kernel_rfl) (by kernel_rfl) (fun _ _ _ h => h) (Or.inl ⟨by rfl, ?ylwr47⟩) hk ?rlwr47
      case ylwr47 => (intro w hSw; (try dsimp only at hSw); go_simp; first | done | with_reducible rfl)
      simp only [Act.put, List.setIfInBounds_toArray, List.set_cons_zero, List.set_cons_succ]
      refine wpAnyH_take (i := 7) (oi := ⟨some 25, .load 3 (.tmp 24), 3, "wal.go:138", #[⟨6, .data⟩], none⟩) (v := ?vlwr48) rfl (by kernel_rfl) (by kernel_rfl) (by kernel_rfl) (fun _ _ _ h => h) (Or.inl ⟨by rfl, ?ylwr48⟩) hk ?rlwr48
      case ylwr48 => (intro w hSw; have hcw := hSw.2; clear hSw; go_simp; first | done | with_reducible rfl)
      simp only [Act.put, List.setIfInBounds_toArray, List.set_cons_zero, List.set_cons_succ]
      refine wpAnyH_take (i := 8) (oi := ⟨some 26, .binOp .add 3 (.tmp 25) (.const (Value.int IntKind.i64 1)) 3, 3, "wal.go:138", #[⟨7, .data⟩], none⟩) (v := ?vlwr49) rfl (by kernel_rfl) (by kernel_rfl) (by kernel_rfl) (fun _ _ _ h => h) (Or.inl ⟨by rfl, ?ylwr49⟩) hk ?rlwr49
      case ylwr49 => (intro w hSw; (try dsimp only at hSw); go_simp; first | done | with_reducible rfl)
      simp only [Act.put, List.setIfInBounds_toArray, List.set_cons_zero, List.set_cons_succ]
      refine wpAnyH_take (i := 9) (oi := ⟨some 27, .move (.tmp 5), 3, "wal.go:138", #[], none⟩) (v := ?vlwr410) rfl (by kernel_rfl) (by kernel_rfl) (by kernel_rfl) (fun _ _ _ h => h) (Or.inl ⟨by rfl, ?ylwr410⟩) hk ?rlwr410
      case ylwr410 => (intro w hSw; (try dsimp only at hSw); go_simp; first | done | with_reducible rfl)
      simp only [Act.put, List.setIfInBounds_toArray, List.set_cons_zero, List.set_cons_succ]
      refine wpAnyH_take (i := 10) (oi := ⟨some 28, .binOp .add 3 (.tmp 26) (.tmp 27) 3, 3, "wal.go:138", #[⟨8, .data⟩, ⟨9, .data⟩], none⟩) (v := ?vlwr411) rfl (by kernel_rfl) (by kernel_rfl) (by kernel_rfl) (fun _ _ _ h => h) (Or.inl ⟨by rfl, ?ylwr411⟩) hk ?rlwr411
      case ylwr411 => (intro w hSw; (try dsimp only at hSw); go_simp; first | done | with_reducible rfl)
      simp only [Act.put, List.setIfInBounds_toArray, List.set_cons_zero, List.set_cons_succ]
      refine wpAnyH_take (i := 11) (oi := ⟨some 29, .move (.tmp 6), 46, "wal.go:138", #[], none⟩) (v := ?vlwr412) rfl (by kernel_rfl) (by kernel_rfl) (by kernel_rfl) (fun _ _ _ h => h) (Or.inl ⟨by rfl, ?ylwr412⟩) hk ?rlwr412
      case ylwr412 => (intro w hSw; (try dsimp only at hSw); go_simp; first | done | with_reducible rfl)
      simp only [Act.put, List.setIfInBounds_toArray, List.set_cons_zero, List.set_cons_succ]
      refine wpAnyH_ready (rs := [12]) (by decide +kernel) (by simp) ?_
      refine AllReadyH.cons (o := ⟨some 30, .call { callee := .value (.func 96), args := #[.tmp 21, .tmp 28, .tmp 29], argTypes := #[25, 3, 46] }, 26, "wal.go:138", #[⟨3, .data⟩, ⟨10, .data⟩, ⟨11, .data⟩], none⟩) rfl (fun K hK => ?_) AllReadyH.nil
      go_simp
      refine (write_any g own1 s1 _ ak lk ck y _ HDk.out HBk.out.1 HBk.out.2 (by have := HOk.out; omega)).mono ?_
      rintro e1 w8 ⟨rfl, own3, hD3, hdid3⟩
      replace hk : w8.cell? ⟨gl, 0, none⟩ = some (.pointer (some ⟨g, 0, none⟩)) ∧ w8.cell? ⟨gl, 2, none⟩ = some (.int .i64 (next : Int)) := HCL.out w8 own3 (HDI.out.trans hdid3)
      have HD3 : Bx _ := ⟨hD3⟩
      have HDI3 : Bx _ := ⟨HDI.out.trans hdid3⟩
      clear hD3 hdid3
      refine hK.out _ _ hk (fun _ => ?_)
      clear hK K
      try simp only [Act.put, List.setIfInBounds_toArray, List.set_cons_zero, List.set_cons_succ]
      refine wpAnyH_take (i := 13) (oi := ⟨some 7, .assign (.tmp 30), 26, "wal.go:138", #[⟨12, .data⟩, ⟨12, .chain⟩, ⟨0, .phase⟩, ⟨1, .phase⟩, ⟨2, .phase⟩, ⟨3, .phase⟩, ⟨4, .phase⟩, ⟨5, .phase⟩, ⟨6, .phase⟩, ⟨7, .phase⟩, ⟨8, .phase⟩, ⟨9, .phase⟩, ⟨10, .phase⟩, ⟨11, .phase⟩, ⟨12, .phase⟩], none⟩) (v := ?vlwr413) rfl (by kernel_rfl) (by kernel_rfl) (by kernel_rfl) (fun _ _ _ h => h) (Or.inl ⟨by rfl, ?ylwr413⟩) hk ?rlwr413
      case ylwr413 => (intro w hSw; (try dsimp only at hSw); go_simp; first | done | with_reducible rfl)
      simp only [Act.put, List.setIfInBounds_toArray, List.set_cons_zero, List.set_cons_succ]
      refine wpAnyH_done (by decide +kernel) ?_ _
      clear HDk HBk HDI hk
      have hx : (next : Int) + 1 + (k : Int) = ((next + 1 + k : Nat) : Int) := by omega
      rw [hx] at HD3 ⊢
      clear hw1 hw2 hx
      by_cases he : s1.wrE ((next + 1 + k : Nat) : Int) y = 0
      · have HW' : Bx _ := ⟨HGO.out he⟩
        have HO' : Bx ((s1.wr ((next + 1 + k : Nat) : Int) y).O.length ≤ 900000 + (k + 1)) := ⟨by have := wr_O (s := s1) ((next + 1 + k : Nat) : Int) y; have := HOk.out; omega⟩
        rw [he]
        clear he HGO HER
        generalize s1.wr ((next + 1 + k : Nat) : Int) y = s2 at HW' HO' HD3
        go_wp2
        go_roundw
        case rel => exact ⟨k + 1, s2, own3, by omega, by go_num, HW', HO', HD3, HDI3⟩
        case measure => simp [intOf]; omega
      · have HA : Bx _ := ⟨HER.out he⟩
        have heb : (s1.wrE ((next + 1 + k : Nat) : Int) y != 0) = true := by simpa using he
        clear he HGO HER
        generalize s1.wrE ((next + 1 + k : Nat) : Int) y = E at HA heb ⊢
        go_wp2
        go_ret
        exact ⟨by rw [HA.out]; rfl, own3, by rw [HA.out]; exact HD3.out, HDI3.out⟩
    · have hkm : k = m - 1 := by omega
      have HW1 : Bx ((s1, (0 : Int)) = wrL s (next + 1) (P.drop 1)) := ⟨by
        rw [← HW.out, List.drop_of_length_le (by rw [HPL.out]; omega)]; rfl⟩
      have hkI : ¬ (k : Int) < ((m - 1 : Nat) : Int) := by omega
      have hmI : (1 : Int) < (m : Int) := by omega
      obtain ⟨c0, c2⟩ := HCL.out wr own1 HDI.out
      clear HW hkm
      go_wp2_with fail
      refine (sync_any g own1 s1 _ HD1.out (by have := HOk.out; omega)).mono ?_
      rintro e w5 ⟨rfl, hD5, hk5⟩
      have HD5 : Bx _ := ⟨hD5⟩
      have HDI5 : Bx _ := ⟨HDI.out.trans (Did.same hk5)⟩
      clear hD5 hk5 c0 c2 HDI HD1
      by_cases hE : s1.syE = 0
      · have HAP : Bx (s.apW next P = apT s1.sy next (P.getD 0 [])) := ⟨apW_more HW1.out (by rw [HPL.out]; exact hm) hE⟩
        have HOs : Bx (s1.sy.O.length ≤ 901000) := ⟨by have := sy_O (s := s1); have := HOk.out; omega⟩
        rw [hE]
        clear hE HW1 HOk
        generalize s1.sy = s2 at HAP HOs HD5
        clear s1
        obtain ⟨s1, HOk, HAP, HD1⟩ : ∃ s1 : DS, Bx (s1.O.length ≤ 901000) ∧ Bx (s.apW next P = apT s1 next (P.getD 0 [])) ∧ Bx (Dsk w5 g own1 s1) := ⟨s2, HOs, HAP, HD5⟩
        obtain ⟨wl, hwl⟩ : ∃ wl, wl = w5 := ⟨_, rfl⟩
        have HDI : Bx (Did own w w5 own1) := HDI5
        rw [← hwl] at HD1 HDI
        clear HDI5 HD5 HOs
        subst hwl
        -- the first piece; behind it the Sync
        obtain ⟨b9, off9, hb9, _, _, hc9⟩ := (HTX.out.did HDI.out).spot (by omega)
        obtain ⟨rfl, rfl⟩ : b = b9 ∧ off = off9 := by cases hb9; exact ⟨rfl, rfl⟩
        obtain ⟨a0, l0, c0, hc0, hbt0, hf0⟩ := hc9 0 (by omega)
        rw [Nat.add_zero] at hc0
        have HCL2 : Bx (∀ W own2, Did own w W own2 → W.cell? ⟨gl, 0, none⟩ = some (.pointer (some ⟨g, 0, none⟩)) ∧ W.cell? ⟨gl, 2, none⟩ = some (.int .i64 (next : Int)) ∧ W.cell? ⟨b, off, none⟩ = some (.slice a0 l0 c0)) := ⟨fun W own2 hd => ⟨(HCL.out W own2 hd).1, (HCL.out W own2 hd).2, by
          obtain ⟨b8, off8, hb8, hlt8, hnb8, hc8⟩ := HTX.out.spot (by omega)
          obtain ⟨rfl, rfl⟩ : b = b8 ∧ off = off8 := by cases hb8; exact ⟨rfl, rfl⟩
          obtain ⟨a1, l1, c1, hc1, _, _⟩ := hc8 0 (by omega)
          rw [Nat.add_zero] at hc1
          have h1 := cell_did HDI.out hlt8 hnb8 hc1
          rw [hc0] at h1
          rw [h1]
          exact cell_did hd hlt8 hnb8 hc1⟩⟩
        generalize P.getD 0 [] = y at hbt0 HAP
        have hk : wl.drew.cell? ⟨gl, 0, none⟩ = some (.pointer (some ⟨g, 0, none⟩)) ∧ wl.drew.cell? ⟨gl, 2, none⟩ = some (.int .i64 (next : Int)) ∧ wl.drew.cell? ⟨b, off, none⟩ = some (.slice a0 l0 c0) := ⟨(HCL.out wl own1 HDI.out).1, (HCL.out wl own1 HDI.out).2, hc0⟩
        have HDk : Bx (Dsk wl.drew g own1 s1) := ⟨HD1.out.drewN 1⟩
        have HBk : Bx (Bts wl.drew a0 l0 c0 y ∧ (0 < l0 → ∀ p, a0 = some p → ¬ own1 p.block)) := ⟨hbt0.drewN 1, hf0⟩
        replace HDI : Bx (Did own w wl.drew own1) := ⟨HDI.out.trans (Did.same ((Kept.refl own1 wl).drewN 1))⟩
        clear hc0 hc9 hbt0 hf0 hb9 HD1
        go_wp2_with fail
        refine wp_region_held_drew (S := fun W => W.cell? ⟨gl, 0, none⟩ = some (.pointer (some ⟨g, 0, none⟩)) ∧ W.cell? ⟨gl, 2, none⟩ = some (.int .i64 (next : Int)) ∧ W.cell? ⟨b, off, none⟩ = some (.slice a0 l0 c0)) (by kernel_rfl) hk (fun _ => ?_)
        generalize wl.drew = wd at hk HDk HBk HDI ⊢
        refine wpAnyH_take (i := 0) (oi := ⟨some 46, .move (.tmp 0), 81, "wal.go:147", #[], none⟩) (v := ?vlwr121) rfl (by kernel_rfl) (by kernel_rfl) (by kernel_rfl) (fun _ _ _ h => h) (Or.inl ⟨by rfl, ?ylwr121⟩) hk ?rlwr121
        case ylwr121 => (intro w hSw; (try dsimp only at hSw); go_simp; first | done | with_reducible rfl)
        simp only [Act.put, List.setIfInBounds_toArray, List.set_cons_zero, List.set_cons_succ]
        refine wpAnyH_take (i := 1) (oi := ⟨some 47, .nilCheck (.tmp 46), 0, "wal.go:147", #[⟨0, .data⟩], none⟩) (v := ?vlwr122) rfl (by kernel_rfl) (by kernel_rfl) (by kernel_rfl) (fun _ _ _ h => h) (Or.inl ⟨by rfl, ?ylwr122⟩) hk ?rlwr122
        case ylwr122 => (intro w hSw; (try dsimp only at hSw); go_simp; first | done | with_reducible rfl)
        simp only [Act.put, List.setIfInBounds_toArray, List.set_cons_zero, List.set_cons_succ]
        refine wpAnyH_take (i := 2) (oi := ⟨some 48, .fieldAddr 121 (.tmp 47) 0, 0, "wal.go:147", #[⟨1, .data⟩], none⟩) (v := ?vlwr123) rfl (by kernel_rfl) (by kernel_rfl) (by kernel_rfl) (fun _ _ _ h => h) (Or.inl ⟨by rfl, ?ylwr123⟩) hk ?rlwr123
        case ylwr123 => (intro w hSw; (try dsimp only at hSw); go_simp; first | done | with_reducible rfl)
        simp only [Act.put, List.setIfInBounds_toArray, List.set_cons_zero, List.set_cons_succ]
        refine wpAnyH_take (i := 3) (oi := ⟨some 49, .load 25 (.tmp 48), 25, "wal.go:147", #[⟨2, .data⟩], none⟩) (v := ?vlwr124) rfl (by kernel_rfl) (by kernel_rfl) (by kernel_rfl) (fun _ _ _ h => h) (Or.inl ⟨by rfl, ?ylwr124⟩) hk ?rlwr124
        case ylwr124 => (intro w hSw; have hcw := hSw.1; clear hSw; go_simp; first | done | with_reducible rfl)
        simp only [Act.put, List.setIfInBounds_toArray, List.set_cons_zero, List.set_cons_succ]
        refine wpAnyH_take (i := 4) (oi := ⟨some 50, .move (.tmp 0), 81, "wal.go:147", #[], none⟩) (v := ?vlwr125) rfl (by kernel_rfl) (by kernel_rfl) (by kernel_rfl) (fun _ _ _ h => h) (Or.inl ⟨by rfl, ?ylwr125⟩) hk ?rlwr125
        case ylwr125 => (intro w hSw; (try dsimp only at hSw); go_simp; first | done | with_reducible rfl)
        simp only [Act.put, List.setIfInBounds_toArray, List.set_cons_zero, List.set_cons_succ]
        refine wpAnyH_take (i := 5) (oi := ⟨some 51, .nilCheck (.tmp 50), 0, "wal.go:147", #[⟨4, .data⟩], none⟩) (v := ?vlwr126) rfl (by kernel_rfl) (by kernel_rfl) (by kernel_rfl) (fun _ _ _ h => h) (Or.inl ⟨by rfl, ?ylwr126⟩) hk ?rlwr126
        case ylwr126 => (intro w hSw; (try dsimp only at hSw); go_simp; first | done | with_reducible rfl)
        simp only [Act.put, List.setIfInBounds_toArray, List.set_cons_zero, List.set_cons_succ]
        refine wpAnyH_take (i := 6) (oi := ⟨some 52, .fieldAddr 121 (.tmp 51) 2, 0, "wal.go:147", #[⟨5, .data⟩], none⟩) (v := ?vlwr127) rfl (by kernel_rfl) (by kernel_rfl) (by kernel_rfl) (fun _ _ _ h => h) (Or.inl ⟨by rfl, ?ylwr127⟩) hk ?rlwr127
        case ylwr127 => (intro w hSw; (try dsimp only at hSw); go_simp; first | done | with_reducible rfl)
        simp only [Act.put, List.setIfInBounds_toArray, List.set_cons_zero, List.set_cons_succ]
        refine wpAnyH_take (i := 7) (oi := ⟨some 53, .load 3 (.tmp 52), 3, "wal.go:147", #[⟨6, .data⟩], none⟩) (v := ?vlwr128) rfl (by kernel_rfl) (by kernel_rfl) (by kernel_rfl) (fun _ _ _ h => h) (Or.inl ⟨by rfl, ?ylwr128⟩) hk ?rlwr128
        case ylwr128 => (intro w hSw; have hcw := hSw.2.1; clear hSw; go_simp; first | done | with_reducible rfl)
        simp only [Act.put, List.setIfInBounds_toArray, List.set_cons_zero, List.set_cons_succ]
        refine wpAnyH_take (i := 8) (oi := ⟨some 54, .move (.tmp 1), 57, "wal.go:147", #[], none⟩) (v := ?vlwr129) rfl (by kernel_rfl) (by kernel_rfl) (by kernel_rfl) (fun _ _ _ h => h) (Or.inl ⟨by rfl, ?ylwr129⟩) hk ?rlwr129
        case ylwr129 => (intro w hSw; (try dsimp only at hSw); go_simp; first | done | with_reducible rfl)
        simp only [Act.put, List.setIfInBounds_toArray, List.set_cons_zero, List.set_cons_succ]
        refine wpAnyH_take (i := 9) (oi := ⟨some 55, .indexAddr 57 (.tmp 54) (.const (Value.int IntKind.i64 0)), 0, "wal.go:147", #[⟨8, .data⟩], none⟩) (v := ?vlwr1210) rfl (by kernel_rfl) (by kernel_rfl) (by kernel_rfl) (fun _ _ _ h => h) (Or.inl ⟨by rfl, ?ylwr1210⟩) hk ?rlwr1210
        case ylwr1210 => (intro w hSw; (try dsimp only at hSw); go_simp; first | done | with_reducible rfl)
        simp only [Act.put, List.setIfInBounds_toArray, List.set_cons_zero, List.set_cons_succ]
        refine wpAnyH_take (i := 10) (oi := ⟨some 56, .load 46 (.tmp 55), 46, "wal.go:147", #[⟨9, .data⟩], none⟩) (v := ?vlwr1211) rfl (by kernel_rfl) (by kernel_rfl) (by kernel_rfl) (fun _ _ _ h => h) (Or.inl ⟨by rfl, ?ylwr1211⟩) hk ?rlwr1211
        case ylwr1211 => (intro w hSw; have hcw := hSw.2.2; clear hSw; go_simp; first | done | with_reducible rfl)
        simp only [Act.put, List.setIfInBounds_toArray, List.set_cons_zero, List.set_cons_succ]
        refine wpAnyH_ready (rs := [11]) (by decide +kernel) (by simp) ?_
        refine AllReadyH.cons (o := ⟨some 57, .call { callee := .value (.func 96), args := #[.tmp 49, .tmp 53, .tmp 56], argTypes := #[25, 3, 46] }, 26, "wal.go:147", #[⟨3, .data⟩, ⟨7, .data⟩, ⟨10, .data⟩], none⟩) rfl (fun K hK => ?_) AllReadyH.nil
        go_simp
        refine (write_any g own1 s1 _ a0 l0 c0 y _ HDk.out HBk.out.1 HBk.out.2 (by have := HOk.out; omega)).mono ?_
        rintro e1 w8 ⟨rfl, own3, hD3, hdid3⟩
        replace hk : w8.cell? ⟨gl, 0, none⟩ = some (.pointer (some ⟨g, 0, none⟩)) ∧ w8.cell? ⟨gl, 2, none⟩ = some (.int .i64 (next : Int)) ∧ w8.cell? ⟨b, off, none⟩ = some (.slice a0 l0 c0) := HCL2.out w8 own3 (HDI.out.trans hdid3)
        have HD3 : Bx _ := ⟨hD3⟩
        have HDI3 : Bx _ := ⟨HDI.out.trans hdid3⟩
        clear hD3 hdid3
        refine hK.out _ _ hk (fun _ => ?_)
        clear hK K
        try simp only [Act.put, List.setIfInBounds_toArray, List.set_cons_zero, List.set_cons_succ]
        refine wpAnyH_take (i := 12) (oi := ⟨some 9, .assign (.tmp 57), 26, "wal.go:147", #[⟨11, .data⟩, ⟨11, .chain⟩, ⟨0, .phase⟩, ⟨1, .phase⟩, ⟨2, .phase⟩, ⟨3, .phase⟩, ⟨4, .phase⟩, ⟨5, .phase⟩, ⟨6, .phase⟩, ⟨7, .phase⟩, ⟨8, .phase⟩, ⟨9, .phase⟩, ⟨10, .phase⟩, ⟨11, .phase⟩], none⟩) (v := ?vlwr1212) rfl (by kernel_rfl) (by kernel_rfl) (by kernel_rfl) (fun _ _ _ h => h) (Or.inl ⟨by rfl, ?ylwr1212⟩) hk ?rlwr1212
        case ylwr1212 => (intro w hSw; (try dsimp only at hSw); go_simp; first | done | with_reducible rfl)
        simp only [Act.put, List.setIfInBounds_toArray, List.set_cons_zero, List.set_cons_succ]
        refine wpAnyH_done (by decide +kernel) ?_ _
        clear HDk HBk HDI
        by_cases he : s1.wrE (next : Int) y = 0
        · have HA : Bx (s.apW next P = ((s1.wr (next : Int) y).sy, (s1.wr (next : Int) y).syE)) := ⟨by rw [HAP.out]; exact apT_ok he⟩
          rw [he]
          have HO3 : Bx ((s1.wr (next : Int) y).O.length ≤ 1000000) := ⟨by have := wr_O (s := s1) (next : Int) y; have := HOk.out; omega⟩
          clear he HAP
          generalize s1.wr (next : Int) y = s3 at HA HD3 HO3
          obtain ⟨k1, k2, k3⟩ := hk
          go_wp2_with fail
          refine (sync_any g own3 s3 _ HD3.out HO3.out).mono ?_
          rintro e w9 ⟨rfl, hD9, hk9⟩
          have HD9 : Bx _ := ⟨hD9⟩
          have HDI9 : Bx _ := ⟨HDI3.out.trans (Did.same hk9)⟩
          clear hD9 hk9 k1 k2 k3
          go_wp2
          go_ret
          exact ⟨by rw [HA.out]; rfl, own3, by rw [HA.out]; exact HD9.out, HDI9.out⟩
        · have HA : Bx (s.apW next P = (s1.wr (next : Int) y, s1.wrE (next : Int) y)) := ⟨by rw [HAP.out]; exact apT_err he⟩
          have heb : (s1.wrE (next : Int) y != 0) = true := by simpa using he
          clear he HAP hk
          generalize s1.wrE (next : Int) y = E at HA heb ⊢
          go_wp2
          go_ret
          exact ⟨by rw [HA.out]; rfl, own3, by rw [HA.out]; exact HD3.out, HDI3.out⟩
      · have HA : Bx (s.apW next P = (s1.sy, s1.syE)) := ⟨apW_sy HW1.out (by rw [HPL.out]; exact hm) hE⟩
        have heb : (s1.syE != 0) = true := by simpa using hE
        clear hE HW1
        generalize s1.syE = E at HA heb ⊢
        go_wp2
        go_ret
        exact ⟨by rw [HA.out]; rfl, own1, by rw [HA.out]; exact HD5.out, HDI5.out⟩
set_option maxRecDepth 100000 in
theorem lwrite_any (gl g : Nat) (own : Nat → Prop) (s : DS) (next m cap : Nat) (a : Option Addr) (P : List (List Int)) (w : World) (hD : Dsk w g own s) (hc0 : w.cell? ⟨gl, 0, none⟩ = some (.pointer (some ⟨g, 0, none⟩))) (hc2 : w.cell? ⟨gl, 2, none⟩ = some (.int .i64 (next : Int))) (hgl : ¬ own gl)
    (hT : TxF own w a m cap P) (hm : 1 ≤ m) (hm2 : m ≤ 1000) (hn : next ≤ 4096) (hO : s.O.length ≤ 900000) :
    Calls Tryz.prog 78 #[.pointer (some ⟨gl, 0, none⟩), .slice a m cap] w fun e w' => e = .returned (.int .i64 (s.apW next P).2) ∧ ∃ own', Dsk w' g own' (s.apW next P).1 ∧ Did own w w' own' := by
  obtain ⟨b, off, rfl, _⟩ := hT.spot hm
  by_cases h1 : m = 1
  · by_cases h2 : cap = 1
    · exact lwrite_one1 gl g own s next b off m cap P w hD hc0 hc2 hgl hT h1 h2 hn hO
    · exact lwrite_one2 gl g own s next b off m cap P w hD hc0 hc2 hgl hT h1 h2 hn hO
  · exact lwrite_more gl g own s next b off m cap P w hD hc0 hc2 hgl hT (by omega) hm2 hn hO
end Go.Proofs.YtjnjokbdoendkaaGreat
namespace Go.Proofs.YtjnjokbdoendkaaGreat
open Go.RowKit
set_option linter.unusedVariables false

/-- whether it comes to a write -/
def LS.go (L : LS) (s : DS) (b : List Int) : Bool := decide (b.length ≤ 16384) && decide (L.next + ns (20 + b.length) ≤ s.F.length) && !L.failed
set_option maxRecDepth 100000 in
theorem LS.go_iff {L : LS} {s : DS} {b : List Int} : L.go s b = true ↔ b.length ≤ 16384 ∧ L.next + ns (20 + b.length) ≤ s.F.length ∧ L.failed = false := by simp [LS.go, and_assoc]
def LS.wr (L : LS) (s : DS) (b : List Int) : DS × Int := s.apW L.next (prt (frmL ((L.T.length : Int) + 1) b))
/-- the answer, the disk and the log behind it -/
def apE (s : DS) (L : LS) (b : List Int) : Int := if 16384 < b.length then 5 else if s.F.length < L.next + ns (20 + b.length) then 11 else if L.failed then 14 else (L.wr s b).2
def apS (s : DS) (L : LS) (b : List Int) : DS := if L.go s b then (L.wr s b).1 else s
def apL (s : DS) (L : LS) (b : List Int) : LS := if L.go s b then (if (L.wr s b).2 = 0 then ⟨L.T ++ [b], L.next + ns (20 + b.length), L.failed⟩ else { L with failed := true }) else L
set_option maxRecDepth 100000 in
theorem ap_no {s : DS} {L : LS} {b : List Int} (h : L.go s b = false) : apS s L b = s ∧ apL s L b = L := by unfold apS apL; rw [h]; exact ⟨rfl, rfl⟩
set_option maxRecDepth 100000 in
theorem ap_yes {s : DS} {L : LS} {b : List Int} (h : L.go s b = true) : apE s L b = (L.wr s b).2 ∧ apS s L b = (L.wr s b).1 := by
  obtain ⟨h1, h2, h3⟩ := LS.go_iff.1 h
  unfold apE apS
  rw [if_neg (by omega), if_neg (by omega), h3, h]; exact ⟨rfl, rfl⟩
set_option maxRecDepth 100000 in
theorem ap_ok {s : DS} {L : LS} {b : List Int} (h : L.go s b = true) (h0 : (L.wr s b).2 = 0) : apL s L b = ⟨L.T ++ [b], L.next + ns (20 + b.length), L.failed⟩ := by unfold apL; rw [h, if_pos rfl, if_pos h0]
set_option maxRecDepth 100000 in
theorem ap_er {s : DS} {L : LS} {b : List Int} (h : L.go s b = true) (h0 : (L.wr s b).2 ≠ 0) : apL s L b = { L with failed := true } := by unfold apL; rw [h, if_pos rfl, if_neg h0]
/-- a log between two stores -/
structure LgX (w : World) (gl : Nat) (own : Nat → Prop) (gd : Nat) (T : List (List Int)) (next : Nat) (failed : Bool) (vt : Value) : Prop where
  row : w.heap[gl]? = some (.cells #[.pointer (some ⟨gd, 0, none⟩), vt, .int .i64 (next : Int), .bool failed] 121 (0, 0))
  tl : TL w (fun k => own k ∧ k ≠ gl) vt T
  og : own gl
  lt : ∀ k, own k → k < w.heap.size
section
variable {w : World} {gl : Nat} {own : Nat → Prop} {gd : Nat} {T : List (List Int)} {next : Nat} {failed : Bool} {vt : Value}
set_option maxRecDepth 100000 in
theorem LgX.c2 (h : LgX w gl own gd T next failed vt) : w.cell? ⟨gl, 2, none⟩ = some (.int .i64 (next : Int)) := by rw [cell_of_row w gl 2 _ _ (0, 0) h.row]; rfl
set_option maxRecDepth 100000 in
theorem LgX.fr (h : LgX w gl own gd T next failed vt) (j : Nat) : w.frozen? ⟨gl, j, none⟩ = false := frozen_of_row _ _ j _ _ h.row
set_option maxRecDepth 100000 in
theorem LgX.drew (h : LgX w gl own gd T next failed vt) : LgX w.drew gl own gd T next failed vt := ⟨h.row, h.tl.keep (fun _ _ _ => rfl) (Nat.le_refl _) (fun _ _ h => h), h.og, h.lt⟩
set_option maxRecDepth 100000 in
theorem LgX.setNext (h : LgX w gl own gd T next failed vt) (n : Nat) (h0 : TOk T) (h1 : T.length ≤ n) (h2 : n ≤ 4096) : LgR (w.setCell ⟨gl, 2, none⟩ (.int .i64 (n : Int))) gl own gd ⟨T, n, failed⟩ vt :=
  ⟨heap_setCell_same w gl 2 _ _ _ h.row, h.tl.keep (fun k _ ho => heap_setCell_other w ⟨gl, 2, none⟩ k _ ho.2) (by simp [World.setCell]) (fun _ _ h => h), h.og, fun k hk => by have := h.lt k hk; simpa [World.setCell] using this, h0, h1, h2⟩
end
set_option maxRecDepth 100000 in
/-- one text more in a log: the row behind an append, then the store of its slice -/
theorem LgR.more {wl w w6 : World} {gl : Nat} {own : Nat → Prop} {gd : Nat} {L : LS} {vt : Value} {xs : List Value} {a3 : Option Addr} {n c3 g4 cap4 : Nat} {l : List Int}
    (h : LgR w gl own gd L vt) (hta : TA w (fun k => own k ∧ k ≠ gl) vt L.T xs) (hbt : Bts w a3 n c3 l) (hfar : 0 < n → ∀ p, a3 = some p → ¬ own p.block ∧ wl.heap.size ≤ p.block) (hK : Kept own wl w)
    (ho : w6.ownsRow 0 46 1 (.slice (some ⟨g4, 0, none⟩) (L.T.length + 1) cap4) (L.T.length + 1) (xs ++ [.slice a3 n c3])) (hg : w.grownBy w6 vt.ownBlock) (hl : vt.ownBlock = some g4 ∨ g4 = w.heap.size) :
    w6.cell? ⟨gl, 1, none⟩ = some vt ∧ w6.frozen? ⟨gl, 1, none⟩ = false ∧ Bx (∃ own2 vt2, LgX (w6.setCell ⟨gl, 1, none⟩ (.slice (some ⟨g4, 0, none⟩) (L.T.length + 1) cap4)) gl own2 gd (L.T ++ [l]) L.next L.failed vt2 ∧ Kept own wl (w6.setCell ⟨gl, 1, none⟩ (.slice (some ⟨g4, 0, none⟩) (L.T.length + 1) cap4)) ∧ (∀ k, own k → own2 k) ∧ ∀ k, own2 k → own k ∨ (wl.heap.size ≤ k ∧ k < (w6.setCell ⟨gl, 1, none⟩ (.slice (some ⟨g4, 0, none⟩) (L.T.length + 1) cap4)).heap.size)) := by
  have hgl : vt.ownBlock ≠ some gl := fun e => (h.tl.ob gl e).2 rfl
  have hglt := h.lt gl h.og
  have hrow6 : w6.heap[gl]? = some (.cells #[.pointer (some ⟨gd, 0, none⟩), vt, .int .i64 (L.next : Int), .bool L.failed] 121 (0, 0)) := (hg.block gl hglt (fun e => hgl e.symm)).trans h.row
  have hg4 : g4 ≠ gl := by
    rcases hl with h1 | h1
    · intro e; rw [e] at h1; exact hgl h1
    · omega
  have hg4l : g4 < w6.heap.size := (ho.lt g4 rfl).2
  have hsz : (w6.setCell ⟨gl, 1, none⟩ (.slice (some ⟨g4, 0, none⟩) (L.T.length + 1) cap4)).heap.size = w6.heap.size := by simp [World.setCell]
  have hvf : ∀ {k : Nat}, vt.ownBlock = some k → k < w.heap.size := fun {k} e => h.lt k (h.tl.ob k e).1
  refine ⟨by rw [cell_of_row w6 gl 1 _ _ (0, 0) hrow6]; rfl, frozen_of_row _ _ 1 _ _ hrow6, ⟨fun k => own k ∨ k = g4 ∨ (0 < n ∧ ∃ p, a3 = some p ∧ p.block = k), _, ⟨heap_setCell_same w6 gl 1 _ _ _ hrow6, ?_, .inl h.og, fun k hk => ?_⟩, ?_, fun k hk => .inl hk, fun k hk => ?_⟩⟩
  · have hcar : ∀ {ai : Option Addr} {li ci : Nat} {y : List Int}, Bts w ai li ci y → (0 < li → ∀ p, ai = some p → vt.ownBlock ≠ some p.block ∧ p.block ≠ gl) → Bts (w6.setCell ⟨gl, 1, none⟩ (.slice (some ⟨g4, 0, none⟩) (L.T.length + 1) cap4)) ai li ci y ∧ (0 < li → ∀ p, ai = some p → (Value.slice (some ⟨g4, 0, none⟩) (L.T.length + 1) cap4).ownBlock ≠ some p.block) := by
      intro ai li ci y hy hn
      refine ⟨hy.keep (fun hp p e => (heap_setCell_other w6 ⟨gl, 1, none⟩ p.block _ (hn hp p e).2).trans (hg.block _ (hy.lt hp e) (fun hh => (hn hp p e).1 hh.symm))) (by rw [hsz]; exact hg.size), fun hp p e => ?_⟩
      show some g4 ≠ some p.block
      rcases hl with h1 | h1
      · rw [← h1]; exact (hn hp p e).1
      · intro e2
        have e4 : g4 = p.block := Option.some.inj e2
        have := hy.lt hp e
        omega
    refine ⟨⟨xs ++ [.slice a3 n c3], ?_, fun i hi => ?_⟩, fun k hk => ?_⟩
    · rw [List.length_append]
      refine ⟨ho.1, ?_⟩
      rcases ho.2 with h3 | ⟨g', cap', cur, hv, hgb, hh, r⟩
      · exact .inl h3
      · refine .inr ⟨g', cap', cur, hv, hgb, ?_, r⟩
        have e : g' = g4 := by injection hv with e1; injection e1 with e1; injection e1 with e1; exact e1.symm
        rw [e] at hh ⊢
        exact (heap_setCell_other w6 ⟨gl, 1, none⟩ g4 _ hg4).trans hh
    · rw [List.length_append] at hi
      by_cases hiL : i < L.T.length
      · obtain ⟨ai, li, ci, e1, e2, e3⟩ := hta.hx i hiL
        obtain ⟨f1, f2⟩ := hcar e2 (fun hp p e => ⟨(e3 hp p e).2, (e3 hp p e).1.2⟩)
        refine ⟨ai, li, ci, by rw [List.getElem?_append_left (by have := hta.hxl; omega)]; exact e1, ?_, fun hp p e => ⟨⟨.inl (e3 hp p e).1.1, (e3 hp p e).1.2⟩, f2 hp p e⟩⟩
        rw [List.getD_eq_getElem?_getD, List.getElem?_append_left hiL, ← List.getD_eq_getElem?_getD]; exact f1
      · obtain rfl : i = L.T.length := by simp at hi; omega
        have hfar2 : 0 < n → ∀ p, a3 = some p → vt.ownBlock ≠ some p.block ∧ p.block ≠ gl := fun hp p e => ⟨fun e2 => (hfar hp p e).1 (h.tl.ob _ e2).1, fun e2 => (hfar hp p e).1 (by rw [e2]; exact h.og)⟩
        obtain ⟨f1, f2⟩ := hcar hbt hfar2
        refine ⟨a3, n, c3, by rw [List.getElem?_append_right (by have := hta.hxl; omega), hta.hxl, Nat.sub_self]; rfl, ?_, fun hp p e => ⟨⟨.inr (.inr ⟨hp, p, e, rfl⟩), (hfar2 hp p e).2⟩, f2 hp p e⟩⟩
        rw [List.getD_eq_getElem?_getD, List.getElem?_append_right (Nat.le_refl _), Nat.sub_self]; exact f1
    · have e : g4 = k := by simpa [Value.ownBlock] using hk
      rw [← e]; exact ⟨.inr (.inl rfl), hg4⟩
  · rw [hsz]
    rcases hk with hk | hk | ⟨hp, p, e, rfl⟩
    · exact Nat.lt_of_lt_of_le (h.lt k hk) hg.size
    · rw [hk]; exact hg4l
    · exact Nat.lt_of_lt_of_le (hbt.lt hp e) hg.size
  · refine ⟨hg.os.trans hK.os, hg.tape.trans hK.tape, hg.output.trans hK.output, by rw [hsz]; exact Nat.le_trans hK.size hg.size, fun k hk hno => ?_⟩
    rw [heap_setCell_other w6 ⟨gl, 1, none⟩ k _ (by intro e; rw [e] at hno; exact hno h.og), hg.block k (Nat.lt_of_lt_of_le hk hK.size) (fun e => hno (h.tl.ob k e.symm).1)]
    exact hK.block k hk hno
  · rw [hsz]
    rcases hk with hk | hk | ⟨hp, p, e, rfl⟩
    · exact .inl hk
    · rcases hl with h1 | h1
      · left; rw [hk]; exact (h.tl.ob g4 h1).1
      · right; rw [hk]; exact ⟨by have := hK.size; omega, hg4l⟩
    · exact .inr ⟨(hfar hp p e).2, Nat.lt_of_lt_of_le (hbt.lt hp e) hg.size⟩
end Go.Proofs.YtjnjokbdoendkaaGreat
