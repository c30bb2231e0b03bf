/- At most so many changes, in memory of their own; two lists of changes that are the same. -/
import Derived.Test.YtjnjokbdoendkaaGreatSdi
import Derived.Test.YtjnjokbdoendkaaGreatSsd
import Derived.Test.YtjnjokbdoendkaaGreatSma
import Derived.Test.YtjnjokbdoendkaaGreatSwt
namespace Go.Proofs.YtjnjokbdoendkaaGreat
open Go.RowKit
set_option linter.unusedVariables false

def cutK (s : ByteArray) : ByteArray := if 60 < s.size then s.extract 0 60 else s
def fw1 (c : Chg) : Chg := ⟨cutK c.key, c.del, c.val.take 4200⟩
def fewL (L : List Chg) : List Chg := (L.take 20).map fw1
set_option maxRecDepth 100000 in
theorem cutK_size (s : ByteArray) : (cutK s).size ≤ 60 := by
  unfold cutK
  split
  · simp [ByteArray.size_extract]; omega
  · omega
set_option maxRecDepth 100000 in
theorem fewL_length (L : List Chg) : (fewL L).length ≤ 20 := by unfold fewL; rw [List.length_map, List.length_take]; omega
set_option maxRecDepth 100000 in
theorem fewL_ok (L : List Chg) : ∀ c ∈ fewL L, c.key.size ≤ 60 ∧ c.val.length ≤ 4200 := by
  intro c hc
  obtain ⟨d, _, rfl⟩ := List.mem_map.1 hc
  exact ⟨cutK_size _, by show (d.val.take 4200).length ≤ 4200; rw [List.length_take]; omega⟩
set_option maxRecDepth 100000 in
theorem cutK_id {s : ByteArray} (h : s.size ≤ 60) : cutK s = s := by unfold cutK; rw [if_neg (by omega)]
set_option maxRecDepth 100000 in
theorem fewL_few (L : List Chg) : fewL (fewL L) = fewL L := by
  have h1 : (fewL L).take 20 = fewL L := List.take_of_length_le (fewL_length L)
  have h2 : ∀ c ∈ fewL L, fw1 c = c := fun c hc => by
    obtain ⟨h3, h4⟩ := fewL_ok L c hc
    exact Chg.eq (cutK_id h3) rfl (List.take_of_length_le h4)
  show ((fewL L).take 20).map fw1 = fewL L
  rw [h1]
  calc (fewL L).map fw1 = (fewL L).map id := List.map_congr_left h2
    _ = fewL L := by simp
/-- the first k -/
def fewP (L : List Chg) (k : Nat) : List Chg := (L.take k).map fw1
set_option maxRecDepth 100000 in
theorem fewP_step (L : List Chg) (k : Nat) (h : k < L.length) : fewP L (k + 1) = fewP L k ++ [fw1 L[k]] := by
  unfold fewP
  rw [List.take_succ_eq_append_getElem h, List.map_append]; rfl
set_option maxRecDepth 100000 in
theorem fewP_len (L : List Chg) (k : Nat) (h : k ≤ L.length) : (fewP L k).length = k := by unfold fewP; rw [List.length_map, List.length_take]; omega
/-- a list that grows, beside a change in its variable -/
structure FwS (w wk : World) (gc : Nat) (cs : Array Value) (vP : Value) (P : List Chg) : Prop where
  low : Below w.heap.size w wk
  ch : wk.heap[gc]? = some (.cells cs 48 (0, 0))
  cl : CL wk (fun k => w.heap.size ≤ k ∧ k ≠ gc) vP P
  g : w.heap.size ≤ gc
section
variable {w wk w' : World} {gc : Nat} {cs : Array Value} {vP : Value} {P : List Chg}
set_option maxRecDepth 100000 in
theorem FwS.below (h : FwS w wk gc cs vP P) (hb : Below wk.heap.size wk w') : FwS w w' gc cs vP P :=
  ⟨bstep h.low hb, (hb.block gc (Array.getElem?_eq_some_iff.1 h.ch).1).trans h.ch, h.cl.below hb, h.g⟩
set_option maxRecDepth 100000 in
theorem FwS.set (h : FwS w wk gc cs vP P) (j : Nat) (v : Value) : FwS w (wk.setCell ⟨gc, j, none⟩ v) gc (cs.setIfInBounds j v) vP P := by
  have ho : ∀ k, k ≠ gc → (wk.setCell ⟨gc, j, none⟩ v).heap[k]? = wk.heap[k]? := fun k hk => heap_setCell_other wk ⟨gc, j, none⟩ k v hk
  exact ⟨h.low.setCell (p := ⟨gc, j, none⟩) h.g v, heap_setCell_same wk gc j _ _ v h.ch, h.cl.keep (fun k _ hk => ho k hk.2) (by simp) (fun _ _ h => h), h.g⟩
set_option maxRecDepth 100000 in
theorem FwS.set0 {x y z : Value} (h : FwS w wk gc #[x, y, z] vP P) (v : Value) : FwS w (wk.setCell ⟨gc, 0, none⟩ v) gc #[v, y, z] vP P := by have h1 := h.set 0 v; simpa using h1
set_option maxRecDepth 100000 in
theorem FwS.set2 {x y z : Value} (h : FwS w wk gc #[x, y, z] vP P) (v : Value) : FwS w (wk.setCell ⟨gc, 2, none⟩ v) gc #[x, y, v] vP P := by have h1 := h.set 2 v; simpa using h1
set_option maxRecDepth 100000 in
theorem FwS.c {x y z : Value} (h : FwS w wk gc #[x, y, z] vP P) : wk.cell? ⟨gc, 0, none⟩ = some x ∧ wk.cell? ⟨gc, 1, none⟩ = some y ∧ wk.cell? ⟨gc, 2, none⟩ = some z ∧ ∀ j, wk.frozen? ⟨gc, j, none⟩ = false :=
  ⟨by rw [cell_of_row wk gc 0 _ _ (0, 0) h.ch]; rfl, by rw [cell_of_row wk gc 1 _ _ (0, 0) h.ch]; rfl, by rw [cell_of_row wk gc 2 _ _ (0, 0) h.ch]; rfl, fun j => frozen_of_row wk gc j _ _ h.ch⟩
end
set_option maxRecDepth 100000 in
set_option maxHeartbeats 4000000 in
set_option maxRecDepth 100000 in
theorem few11_any (ao : Option Addr) (len cap : Nat) (B : Nat → Prop) (L : List Chg) (w : World) (h : CT B w ao len cap L) (hks : ∀ c ∈ L, c.key.size ≤ 9223372036854775807) :
    Calls Tryz.prog 14 #[.slice ao len cap] w fun e w' => ∃ v, e = .returned v ∧ CL w' (fun k => w.heap.size ≤ k ∧ k < w'.heap.size) v (fewL L) ∧ Below w.heap.size w w' := by
  have HLW : Bx (CT (fun k => k < w.heap.size) w ao len cap L) := ⟨h.low⟩
  have HKS := Bx.mk hks
  have HLEN : Bx (L.length = len) := ⟨h.len_eq⟩
  have hcl := h.le_cap
  have hcm := h.cap_le
  unfold maxLen at hcm
  have h00 : fewP L 0 = [] := rfl
  clear h hks
  go_enter Tryz.func14, Tryz.ntmps14
  go_wp2_with fail
  go_loopw [3, 4] (fun v i wr => ∃ k : Nat, k ≤ len ∧ k ≤ 20 ∧ i = .int .i64 k ∧ Bx (CL wr (fun k => w.heap.size ≤ k) v (fewP L k)) ∧ Below w.heap.size w wr) (fun _ i _ => len - (intOf i).toNat)
  case atStart => exact ⟨0, Nat.zero_le _, Nat.zero_le _, rfl, ⟨by rw [h00]; exact RL.nil _ _⟩, Below.refl _ _⟩
  case round =>
    clear h00
    obtain ⟨k, hk, hk20, rfl, HP, hbw⟩ := hrel
    obtain ⟨vP, hvP⟩ : ∃ x, x = u3 := ⟨_, rfl⟩
    subst hvP
    by_cases hgo : k < len ∧ k < 20
    · have hlt := hgo.1
      have hkI : (k : Int) < (len : Int) := by omega
      have hkJ : (k : Int) < 20 := by omega
      have hkL : k < L.length := by rw [HLEN.out]; exact hlt
      have HST : Bx (fewP L (k + 1) = fewP L k ++ [fw1 L[k]]) := ⟨fewP_step L k hkL⟩
      have HPL : Bx (k = (fewP L k).length) := ⟨(fewP_len L k (by omega)).symm⟩
      have hkey := HKS.out _ (List.getElem_mem hkL)
      obtain ⟨b, off, ai, ni, ci, rfl, hbl, hblw, h1, h2, h3, hbt, hlo⟩ := (HLW.out.stay hbw).chg k hlt
      generalize hcc : L[k] = cc at h1 h2 hbt hkey HST
      obtain ⟨kk, dd, vv⟩ := cc
      simp only at h1 h2 hbt hkey
      generalize fewP L k = P at HST HP HPL
      obtain ⟨gc, HGC⟩ : ∃ gc, Bx (gc = wr.heap.size) := ⟨_, ⟨rfl⟩⟩
      have HF0 : Bx (∀ KY, FwS w (wr.alloc (.cells #[.string KY, .bool dd, .slice ai ni ci] 48)) gc #[.string KY, .bool dd, .slice ai ni ci] vP P ∧ Bts (wr.alloc (.cells #[.string KY, .bool dd, .slice ai ni ci] 48)) ai ni ci vv) := ⟨fun KY => by
        have hba : Below wr.heap.size wr (wr.alloc (.cells #[.string KY, .bool dd, .slice ai ni ci] 48)) := (Below.refl _ _).alloc (Nat.le_refl _) _
        have hra := heap_alloc_new wr (.cells #[.string KY, .bool dd, .slice ai ni ci] 48)
        rw [← HGC.out] at hra
        exact ⟨⟨bstep hbw hba, hra, HP.out.keep (fun j hj _ => hba.block j hj) hba.size (fun j hj ho => ⟨ho, by have := HGC.out; omega⟩), by have := HGC.out; have := hbw.size; omega⟩, hbt.below hba⟩⟩
      clear hcc hbt hlo hbw HP
      by_cases h60 : 60 < kk.size
      · have g60 : (60 : Int) < (kk.size : Int) := by omega
        have g61 : (60 : Int) ≤ (kk.size : Int) := by omega
        have HCK : Bx (cutK kk = kk.extract 0 60) := ⟨by unfold cutK; rw [if_pos h60]⟩
        have HFS := Bx.mk (HF0.out (kk.extract 0 60)).1
        have HVA := Bx.mk (HF0.out (kk.extract 0 60)).2
        clear HF0 h60
        go_wp2_with fail
        rw [← HGC.out]
        generalize wr.alloc (.cells #[.string (kk.extract 0 60), .bool dd, .slice ai ni ci] 48) = ws at HFS HVA ⊢
        generalize kk.extract 0 60 = KY at HFS HCK ⊢
        -- the value, cut, in new memory
        refine (cut_any ai ni ci 4200 vv _ HVA.out (by decide)).mono ?_
        rintro e wb ⟨⟨n6, rfl, hb6⟩, rfl⟩
        have HB6 := Bx.mk hb6
        have hn6 : n6 ≤ 4200 := by rw [← hb6.len_eq, List.length_take]; omega
        clear hb6
        go_wp2_with fail
        refine (copy_any ai n6 ci (vv.take 4200) _ HB6.out (by omega)).mono ?_
        rintro e wc ⟨v7, rfl, hown7, hb7⟩
        obtain ⟨a7, c7, rfl, hm7⟩ := Bts.of_owns hown7 HB6.out.byt
        have HFC := Bx.mk (HFS.out.below hb7)
        obtain ⟨j0, j1, j2, jf⟩ := HFC.out.c
        have jf2 := jf 2
        have HFD := Bx.mk (HFC.out.set2 (.slice a7 n6 c7))
        have hgl7 : gc < ws.heap.size := (Array.getElem?_eq_some_iff.1 HFS.out.ch).1
        have HN7 : Bx (0 < n6 → ∀ q, a7 = some q → w.heap.size ≤ q.block ∧ vP.ownBlock ≠ some q.block ∧ Unf (wc.setCell ⟨gc, 2, none⟩ (.slice a7 n6 c7)) q.block) := ⟨fun h0 q e => by
          have h1 := (own_ge hown7 q e).1
          have h2 := HFS.out.low.size
          refine ⟨by omega, fun e2 => ?_, (own_unf hown7 q e).keep (heap_setCell_other wc ⟨gc, 2, none⟩ q.block _ (by show q.block ≠ gc; omega))⟩
          have h3 := HFS.out.cl.lt e2
          omega⟩
        have HM7 : Bx (Bts (wc.setCell ⟨gc, 2, none⟩ (.slice a7 n6 c7)) a7 n6 c7 (vv.take 4200)) := ⟨hm7.keep (fun h0 q e => heap_setCell_other wc ⟨gc, 2, none⟩ q.block _ (by have h1 := (own_ge hown7 q e).1; show q.block ≠ gc; omega)) (by simp)⟩
        obtain ⟨Z, hown, HRA⟩ := (HFD.out.cl.keep (own2 := fun k => w.heap.size ≤ k) (fun _ _ _ => rfl) (Nat.le_refl _) (fun _ _ h => h.1)).open
        rw [← HPL.out] at hown
        have HBA : Bx (Below (wc.setCell ⟨gc, 2, none⟩ (.slice a7 n6 c7)).heap.size (wc.setCell ⟨gc, 2, none⟩ (.slice a7 n6 c7)) ((wc.setCell ⟨gc, 2, none⟩ (.slice a7 n6 c7)).alloc (.cells #[.string KY, .bool dd, .slice a7 n6 c7] 48))) := ⟨(Below.refl _ _).alloc (Nat.le_refl _) _⟩
        have HOA := Bx.mk (hown.alloc (.cells #[.string KY, .bool dd, .slice a7 n6 c7] 48))
        have hsz9 : (wc.setCell ⟨gc, 2, none⟩ (.slice a7 n6 c7)).heap.size = wc.heap.size := by simp
        have hnw9 := World.news_of_block (heap_alloc_new (wc.setCell ⟨gc, 2, none⟩ (.slice a7 n6 c7)) (.cells #[.string KY, .bool dd, .slice a7 n6 c7] 48))
        rw [hsz9] at hnw9
        have HNW := Bx.mk hnw9
        have HSZ9 := Bx.mk hsz9
        have HVK : Bx (∀ j, vP.ownBlock = some j → w.heap.size ≤ j) := ⟨fun j hj => (HFD.out.cl.ob j hj).1⟩
        have HBW := Bx.mk HFD.out.low
        have hsw9 := Bx.mk HBW.out.size
        obtain ⟨i0, hi, hz0, hz1, hz2⟩ := info_parts Tryz.infoC
        clear hown7 hb7 hm7 HFS HFC HFD jf hown hnw9 hsz9 hgl7 HB6
        go_wp2_with (at_builtin; refine wpList_append_lies _ rfl (.tmp 33) (.tmp 35) 39 rfl 0 48 i0 (.agg #[.string ⟨#[]⟩, .bool false, .slice none 0 0]) 3 48 Tryz.underlying39 hi hz0 hz1 hz2 rfl (by decide) _ k (Z.flatMap chE) rfl HOA.out ⟨wc.heap.size, 0, none⟩ 1 1 [.string KY, .bool dd, .slice a7 n6 c7] rfl rfl HNW.out (by simp [Value.oneCell']) (by decide) (by unfold maxLen; omega) (by omega) (Nat.zero_le _) _ rfl ?_)
        intro g4 cap4 w4 hown4 hgr4 hl4 hlt4
        have hl5 : vP.ownBlock = some g4 ∨ (wc.setCell ⟨gc, 2, none⟩ (.slice a7 n6 c7)).heap.size ≤ g4 := by
          rcases hl4 with h1 | h1
          · exact .inl h1
          · exact .inr (by have q9 := HSZ9.out; omega)
        have hg4 : w.heap.size ≤ g4 := by
          rcases hl5 with h1 | h1
          · exact HVK.out g4 h1
          · have q2 := hsw9.out; omega
        have HP4 : Bx (CL w4 (fun k => w.heap.size ≤ k) (.slice (some ⟨g4, 0, none⟩) (k + 1) cap4) (fewP L (k + 1))) := ⟨by
          rw [HST.out]
          have e9 : fw1 ⟨kk, dd, vv⟩ = ⟨KY, dd, vv.take 4200⟩ := by unfold fw1; simp only [HCK.out]
          rw [e9]
          exact HRA.out.done (z := ⟨⟨KY, dd, vv.take 4200⟩, a7, n6, c7⟩) HPL.out rfl HM7.out HN7.out HBA.out hown4 hgr4 hl5 (fun _ h => h) hg4⟩
        have hK4 : Below w.heap.size w w4 := (bstep HBW.out HBA.out).grown hgr4 (by have := HBA.out.size; have := hsw9.out; omega) (fun j hj => HVK.out j hj)
        clear hown4 hgr4 hl4 hl5 HNW HOA HVK HRA HBA hi hz0 hz1 hz2 hg4 hlt4 HM7 HN7 HBW j0 j1 j2 jf2
        go_wp2_with fail
        go_roundw
        case rel => exact ⟨k + 1, by omega, by omega, by go_num, HP4, hK4⟩
        case measure => simp [intOf]; omega
      · have g60 : ¬ (60 : Int) < (kk.size : Int) := by omega
        have HCK : Bx (cutK kk = kk) := ⟨cutK_id (by omega)⟩
        have HFS := Bx.mk (HF0.out kk).1
        have HVA := Bx.mk (HF0.out kk).2
        clear HF0 h60
        go_wp2_with fail
        rw [← HGC.out]
        generalize wr.alloc (.cells #[.string kk, .bool dd, .slice ai ni ci] 48) = ws at HFS HVA ⊢
        -- the value, cut, in new memory
        refine (cut_any ai ni ci 4200 vv _ HVA.out (by decide)).mono ?_
        rintro e wb ⟨⟨n6, rfl, hb6⟩, rfl⟩
        have HB6 := Bx.mk hb6
        have hn6 : n6 ≤ 4200 := by rw [← hb6.len_eq, List.length_take]; omega
        clear hb6
        go_wp2_with fail
        refine (copy_any ai n6 ci (vv.take 4200) _ HB6.out (by omega)).mono ?_
        rintro e wc ⟨v7, rfl, hown7, hb7⟩
        obtain ⟨a7, c7, rfl, hm7⟩ := Bts.of_owns hown7 HB6.out.byt
        have HFC := Bx.mk (HFS.out.below hb7)
        obtain ⟨j0, j1, j2, jf⟩ := HFC.out.c
        have jf2 := jf 2
        have HFD := Bx.mk (HFC.out.set2 (.slice a7 n6 c7))
        have hgl7 : gc < ws.heap.size := (Array.getElem?_eq_some_iff.1 HFS.out.ch).1
        have HN7 : Bx (0 < n6 → ∀ q, a7 = some q → w.heap.size ≤ q.block ∧ vP.ownBlock ≠ some q.block ∧ Unf (wc.setCell ⟨gc, 2, none⟩ (.slice a7 n6 c7)) q.block) := ⟨fun h0 q e => by
          have h1 := (own_ge hown7 q e).1
          have h2 := HFS.out.low.size
          refine ⟨by omega, fun e2 => ?_, (own_unf hown7 q e).keep (heap_setCell_other wc ⟨gc, 2, none⟩ q.block _ (by show q.block ≠ gc; omega))⟩
          have h3 := HFS.out.cl.lt e2
          omega⟩
        have HM7 : Bx (Bts (wc.setCell ⟨gc, 2, none⟩ (.slice a7 n6 c7)) a7 n6 c7 (vv.take 4200)) := ⟨hm7.keep (fun h0 q e => heap_setCell_other wc ⟨gc, 2, none⟩ q.block _ (by have h1 := (own_ge hown7 q e).1; show q.block ≠ gc; omega)) (by simp)⟩
        obtain ⟨Z, hown, HRA⟩ := (HFD.out.cl.keep (own2 := fun k => w.heap.size ≤ k) (fun _ _ _ => rfl) (Nat.le_refl _) (fun _ _ h => h.1)).open
        rw [← HPL.out] at hown
        have HBA : Bx (Below (wc.setCell ⟨gc, 2, none⟩ (.slice a7 n6 c7)).heap.size (wc.setCell ⟨gc, 2, none⟩ (.slice a7 n6 c7)) ((wc.setCell ⟨gc, 2, none⟩ (.slice a7 n6 c7)).alloc (.cells #[.string kk, .bool dd, .slice a7 n6 c7] 48))) := ⟨(Below.refl _ _).alloc (Nat.le_refl _) _⟩
        have HOA := Bx.mk (hown.alloc (.cells #[.string kk, .bool dd, .slice a7 n6 c7] 48))
        have hsz9 : (wc.setCell ⟨gc, 2, none⟩ (.slice a7 n6 c7)).heap.size = wc.heap.size := by simp
        have hnw9 := World.news_of_block (heap_alloc_new (wc.setCell ⟨gc, 2, none⟩ (.slice a7 n6 c7)) (.cells #[.string kk, .bool dd, .slice a7 n6 c7] 48))
        rw [hsz9] at hnw9
        have HNW := Bx.mk hnw9
        have HSZ9 := Bx.mk hsz9
        have HVK : Bx (∀ j, vP.ownBlock = some j → w.heap.size ≤ j) := ⟨fun j hj => (HFD.out.cl.ob j hj).1⟩
        have HBW := Bx.mk HFD.out.low
        have hsw9 := Bx.mk HBW.out.size
        obtain ⟨i0, hi, hz0, hz1, hz2⟩ := info_parts Tryz.infoC
        clear hown7 hb7 hm7 HFS HFC HFD jf hown hnw9 hsz9 hgl7 HB6
        go_wp2_with (at_builtin; refine wpList_append_lies _ rfl (.tmp 33) (.tmp 35) 39 rfl 0 48 i0 (.agg #[.string ⟨#[]⟩, .bool false, .slice none 0 0]) 3 48 Tryz.underlying39 hi hz0 hz1 hz2 rfl (by decide) _ k (Z.flatMap chE) rfl HOA.out ⟨wc.heap.size, 0, none⟩ 1 1 [.string kk, .bool dd, .slice a7 n6 c7] rfl rfl HNW.out (by simp [Value.oneCell']) (by decide) (by unfold maxLen; omega) (by omega) (Nat.zero_le _) _ rfl ?_)
        intro g4 cap4 w4 hown4 hgr4 hl4 hlt4
        have hl5 : vP.ownBlock = some g4 ∨ (wc.setCell ⟨gc, 2, none⟩ (.slice a7 n6 c7)).heap.size ≤ g4 := by
          rcases hl4 with h1 | h1
          · exact .inl h1
          · exact .inr (by have q9 := HSZ9.out; omega)
        have hg4 : w.heap.size ≤ g4 := by
          rcases hl5 with h1 | h1
          · exact HVK.out g4 h1
          · have q2 := hsw9.out; omega
        have HP4 : Bx (CL w4 (fun k => w.heap.size ≤ k) (.slice (some ⟨g4, 0, none⟩) (k + 1) cap4) (fewP L (k + 1))) := ⟨by
          rw [HST.out]
          have e9 : fw1 ⟨kk, dd, vv⟩ = ⟨kk, dd, vv.take 4200⟩ := by unfold fw1; simp only [HCK.out]
          rw [e9]
          exact HRA.out.done (z := ⟨⟨kk, dd, vv.take 4200⟩, a7, n6, c7⟩) HPL.out rfl HM7.out HN7.out HBA.out hown4 hgr4 hl5 (fun _ h => h) hg4⟩
        have hK4 : Below w.heap.size w w4 := (bstep HBW.out HBA.out).grown hgr4 (by have := HBA.out.size; have := hsw9.out; omega) (fun j hj => HVK.out j hj)
        clear hown4 hgr4 hl4 hl5 HNW HOA HVK HRA HBA hi hz0 hz1 hz2 hg4 hlt4 HM7 HN7 HBW j0 j1 j2 jf2
        go_wp2_with fail
        go_roundw
        case rel => exact ⟨k + 1, by omega, by omega, by go_num, HP4, hK4⟩
        case measure => simp [intOf]; omega
    · have hov : Bx (fewP L k = fewL L) := ⟨by
        unfold fewP fewL
        by_cases h20 : k = 20
        · rw [h20]
        · rw [List.take_of_length_le (by rw [HLEN.out]; omega), List.take_of_length_le (by rw [HLEN.out]; omega)]⟩
      rw [hov.out] at HP
      have HF : Bx (CL wr (fun k => w.heap.size ≤ k ∧ k < wr.heap.size) vP (fewL L)) := ⟨HP.out.mono (fun j hj ho => ⟨ho, hj⟩)⟩
      obtain ⟨aP, cP, rfl, _⟩ := HP.out.form
      have hcond : (¬ (k : Int) < (len : Int)) ∨ ((k : Int) < (len : Int) ∧ ¬ (k : Int) < 20) := by omega
      clear hgo HP
      rcases hcond with hc | ⟨hc, hc2⟩
      · go_wp2_with fail
        go_ret
        exact ⟨_, rfl, HF.out, hbw⟩
      · go_wp2_with fail
        go_ret
        exact ⟨_, rfl, HF.out, hbw⟩
end Go.Proofs.YtjnjokbdoendkaaGreat
