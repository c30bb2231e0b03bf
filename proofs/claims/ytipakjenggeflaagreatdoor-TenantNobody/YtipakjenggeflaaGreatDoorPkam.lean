/- Steps, Arm and New of a disk. A ledger in memory. No walk. -/
import Derived.Test.YtipakjenggeflaaGreatDoorPkae
import Derived.Test.YtipakjenggeflaaGreatDoorPkaa
import Derived.Laws.CopyOwn
import Derived.ChangeKeysEq
import Derived.Deep.MidRow
namespace Go.Proofs.YtipakjenggeflaaGreatDoor
open Go.RowKit
set_option linter.unusedVariables false

set_option maxRecDepth 100000 in
theorem wri_zero : (Tryz.prog.info? 120).map (fun i => i.zero.map (·.cells.size)) = some (some 65) := by kernel_rfl
set_option maxRecDepth 100000 in
theorem secs_whole {w : World} {base g n : Nat} {xs : List Value} (h : w.ownsRow base 118 64 (.slice (some ⟨g, 0, none⟩) n n) n xs) : w.heap[g]? = some (.cells xs.toArray 118 (0, 0)) := by
  rcases h.2 with ⟨h2, _⟩ | ⟨g', cap', cur, hv, hg, hh, hn, hm, hs, ht⟩
  · cases h2
  · cases hv
    rw [hh]
    congr 1
    have : cur.toList = xs := by rw [← ht, List.take_of_length_le (by rw [Array.length_toList, hs]; exact Nat.le_refl _)]
    rw [← this]
set_option maxRecDepth 100000 in
theorem Secs.below {w w' : World} {G : Nat} {L : List (List Int)} (h : Secs w G L) (hb : Below w.heap.size w w') : Secs w' G L := (hb.block G h.lt).trans h
set_option maxRecDepth 100000 in
theorem wp_make_secs {o : Oper} {a : Act} {w : World} {K : Act → World → Prop} {Q : Exit → Act → World → Prop} (l c : Operand) (ho : o.op = .makeSlice 86 l c) (n : Nat) (hl : a.eval l = .int .i64 n) (hc : a.eval c = .int .i64 n) (hn : n ≤ 4096)
    (h : ∀ w' G, Bx (G = w.heap.size) → Secs w' G (List.replicate n s0) → Bx (Below w.heap.size w w') → K (a.put o.dst (.slice (some ⟨G, 0, none⟩) n n)) w') : o.wp Tryz.prog a w K Q := by
  obtain ⟨i0, hi, hz0, hz1, hz2⟩ := info_parts sec_info
  obtain ⟨w', hrun, r1, r2⟩ := run_make_full (P := Tryz.prog) w w.heap.size 86 118 i0 (.agg #[.int .u8 0, .int .u8 0, .int .u8 0, .int .u8 0, .int .u8 0, .int .u8 0, .int .u8 0, .int .u8 0, .int .u8 0, .int .u8 0, .int .u8 0, .int .u8 0, .int .u8 0, .int .u8 0, .int .u8 0, .int .u8 0, .int .u8 0, .int .u8 0, .int .u8 0, .int .u8 0, .int .u8 0, .int .u8 0, .int .u8 0, .int .u8 0, .int .u8 0, .int .u8 0, .int .u8 0, .int .u8 0, .int .u8 0, .int .u8 0, .int .u8 0, .int .u8 0, .int .u8 0, .int .u8 0, .int .u8 0, .int .u8 0, .int .u8 0, .int .u8 0, .int .u8 0, .int .u8 0, .int .u8 0, .int .u8 0, .int .u8 0, .int .u8 0, .int .u8 0, .int .u8 0, .int .u8 0, .int .u8 0, .int .u8 0, .int .u8 0, .int .u8 0, .int .u8 0, .int .u8 0, .int .u8 0, .int .u8 0, .int .u8 0, .int .u8 0, .int .u8 0, .int .u8 0, .int .u8 0, .int .u8 0, .int .u8 0, .int .u8 0, .int .u8 0]) 64 Tryz.underlying86 hi hz0 hz1 .i64 .i64 n (by rw [hz2]; omega) (by unfold maxLen; omega) (Nat.le_refl _)
  unfold Oper.wp
  simp [execOp, ho, hl, hc, hrun, Result.andThen]
  refine h w' _ ⟨rfl⟩ ?_ ⟨(Below.refl _ _).grown r2 (Nat.le_refl _) (by intro k hk; cases hk)⟩
  have h1 := secs_whole r1
  rw [show (Value.agg #[.int .u8 0, .int .u8 0, .int .u8 0, .int .u8 0, .int .u8 0, .int .u8 0, .int .u8 0, .int .u8 0, .int .u8 0, .int .u8 0, .int .u8 0, .int .u8 0, .int .u8 0, .int .u8 0, .int .u8 0, .int .u8 0, .int .u8 0, .int .u8 0, .int .u8 0, .int .u8 0, .int .u8 0, .int .u8 0, .int .u8 0, .int .u8 0, .int .u8 0, .int .u8 0, .int .u8 0, .int .u8 0, .int .u8 0, .int .u8 0, .int .u8 0, .int .u8 0, .int .u8 0, .int .u8 0, .int .u8 0, .int .u8 0, .int .u8 0, .int .u8 0, .int .u8 0, .int .u8 0, .int .u8 0, .int .u8 0, .int .u8 0, .int .u8 0, .int .u8 0, .int .u8 0, .int .u8 0, .int .u8 0, .int .u8 0, .int .u8 0, .int .u8 0, .int .u8 0, .int .u8 0, .int .u8 0, .int .u8 0, .int .u8 0, .int .u8 0, .int .u8 0, .int .u8 0, .int .u8 0, .int .u8 0, .int .u8 0, .int .u8 0, .int .u8 0]).cells = #[.int .u8 0, .int .u8 0, .int .u8 0, .int .u8 0, .int .u8 0, .int .u8 0, .int .u8 0, .int .u8 0, .int .u8 0, .int .u8 0, .int .u8 0, .int .u8 0, .int .u8 0, .int .u8 0, .int .u8 0, .int .u8 0, .int .u8 0, .int .u8 0, .int .u8 0, .int .u8 0, .int .u8 0, .int .u8 0, .int .u8 0, .int .u8 0, .int .u8 0, .int .u8 0, .int .u8 0, .int .u8 0, .int .u8 0, .int .u8 0, .int .u8 0, .int .u8 0, .int .u8 0, .int .u8 0, .int .u8 0, .int .u8 0, .int .u8 0, .int .u8 0, .int .u8 0, .int .u8 0, .int .u8 0, .int .u8 0, .int .u8 0, .int .u8 0, .int .u8 0, .int .u8 0, .int .u8 0, .int .u8 0, .int .u8 0, .int .u8 0, .int .u8 0, .int .u8 0, .int .u8 0, .int .u8 0, .int .u8 0, .int .u8 0, .int .u8 0, .int .u8 0, .int .u8 0, .int .u8 0, .int .u8 0, .int .u8 0, .int .u8 0, .int .u8 0] from rfl, made_secs] at h1
  exact h1
set_option maxRecDepth 100000 in
theorem new_dsk {wk : World} {N gf gn n : Nat} (hsf : Secs wk gf (List.replicate n s0)) (hsn : Secs wk gn (List.replicate n s0)) (hne : gf ≠ gn) (hgf : N ≤ gf) (hgn : N ≤ gn) (hs : N ≤ wk.heap.size) (h1 : 1 ≤ n) (h2 : n ≤ 4096) :
    Dsk (wk.alloc (.cells #[.slice (some ⟨gf, 0, none⟩) n n, .slice (some ⟨gn, 0, none⟩) n n, .slice none 0 0, .bool false, .int .i64 0, .bool false] 89)) wk.heap.size (fun k => N ≤ k ∧ k < (wk.alloc (.cells #[.slice (some ⟨gf, 0, none⟩) n n, .slice (some ⟨gn, 0, none⟩) n n, .slice none 0 0, .bool false, .int .i64 0, .bool false] 89)).heap.size) (dnew n) := by
  have hl : (dnew n).F.length = n := by simp [dnew]
  have hok := dnew_ok h1 h2
  generalize hA : (#[.slice (some ⟨gf, 0, none⟩) n n, .slice (some ⟨gn, 0, none⟩) n n, .slice none 0 0, .bool false, .int .i64 0, .bool false] : Array Value) = A
  have hz : (wk.alloc (.cells A 89)).heap.size = wk.heap.size + 1 := by simp
  have hf := hsf.lt
  have hn := hsn.lt
  refine ⟨gf, gn, .slice none 0 0, ⟨?_, (heap_alloc_old _ _ hf).trans hsf, (heap_alloc_old _ _ hn).trans hsn, World.ownsRow_nil _ _ _ _, hne, ⟨hs, by rw [hz]; omega⟩, ⟨hgf, by rw [hz]; omega⟩, ⟨hgn, by rw [hz]; omega⟩, (fun k hk => by simp [Value.ownBlock] at hk), fun k hk => hk.2, rfl, rfl, hok.n1, hok.n2, hok.f, hok.f, hok.o, hok.left⟩⟩
  rw [heap_alloc_new, hl, ← hA]; rfl
set_option maxRecDepth 100000 in
set_option maxHeartbeats 1000000 in
theorem new_anyD (n : Nat) (w : World) (h1 : 1 ≤ n) (h2 : n ≤ 4096) :
    Calls Tryz.prog 10 #[.int .i64 n] w fun e w' => ∃ g, e = .returned (.tuple #[.pointer (some ⟨g, 0, none⟩), .int .i64 0]) ∧ Dsk w' g (fun k => w.heap.size ≤ k ∧ k < w'.heap.size) (dnew n) ∧ Below w.heap.size w w' := by
  have g1 : ¬ (n : Int) < 1 := by omega
  have g2 : ¬ (n : Int) > 4096 := by omega
  have hk : Below w.heap.size w w.drew := (Below.refl _ _).drew
  go_enter Tryz.func10, Tryz.ntmps10
  go_wp2_with fail
  refine wp_region_held_drew (S := fun W => Below w.heap.size w W) (by kernel_rfl) hk (fun _ => ?_)
  generalize w.drew = wk at hk ⊢
  refine wpAnyH_take (i := 0) (oi := ⟨some 10, .move (.tmp 0), 3, "disk.go:33", #[], none⟩) (v := ?vdnew1) rfl (by kernel_rfl) (by kernel_rfl) (by kernel_rfl) (fun _ _ _ h => h) (Or.inl ⟨by rfl, ?ydnew1⟩) hk ?rdnew1
  case ydnew1 => (intro w hSw; (try dsimp only at hSw); go_simp; first | done | with_reducible rfl)
  simp only [Act.put, List.setIfInBounds_toArray, List.set_cons_zero, List.set_cons_succ]
  refine wpAnyH_take (i := 2) (oi := ⟨some 12, .move (.tmp 0), 3, "disk.go:33", #[], none⟩) (v := ?vdnew2) rfl (by kernel_rfl) (by kernel_rfl) (by kernel_rfl) (fun _ _ _ h => h) (Or.inl ⟨by rfl, ?ydnew2⟩) hk ?rdnew2
  case ydnew2 => (intro w hSw; (try dsimp only at hSw); go_simp; first | done | with_reducible rfl)
  simp only [Act.put, List.setIfInBounds_toArray, List.set_cons_zero, List.set_cons_succ]
  refine wpAnyH_ready (rs := [1, 3]) (by decide +kernel) (by simp) ?_
  refine (AllReadyH.cons (o := ⟨some 11, .makeSlice 86 (.tmp 10) (.tmp 10), 86, "disk.go:33", #[⟨0, .data⟩, ⟨0, .data⟩], none⟩) rfl (fun K hK => ?_) (AllReadyH.cons (o := ⟨some 13, .makeSlice 86 (.tmp 12) (.tmp 12), 86, "disk.go:33", #[⟨2, .data⟩, ⟨2, .data⟩], none⟩) rfl (fun K hK => ?_) AllReadyH.nil))
  · rw [if_pos (by rfl)]
    refine wp_make_secs (.tmp 10) (.tmp 10) rfl n rfl rfl h2 ?_
    intro wk gf hG hsf hb1
    have hgf : w.heap.size ≤ gf := by rw [hG.out]; exact hk.size
    try (have hne : gn < gf := by rw [hG.out]; exact hsn.lt)
    try replace hsn := hsn.below hb1.out
    replace hk := hk.trans (hb1.out.mono hk.size)
    clear hb1 hG
    try simp only [Act.put, List.setIfInBounds_toArray, List.set_cons_zero, List.set_cons_succ]
    refine hK.out _ _ hk (fun _ => ?_)
    clear hK K
    try simp only [Act.put, List.setIfInBounds_toArray, List.set_cons_zero, List.set_cons_succ]
    refine wpAnyH_ready (rs := [3]) (by decide +kernel) (by simp) ?_
    refine AllReadyH.cons (o := ⟨some 13, .makeSlice 86 (.tmp 12) (.tmp 12), 86, "disk.go:33", #[⟨2, .data⟩, ⟨2, .data⟩], none⟩) rfl (fun K hK => ?_) AllReadyH.nil
    rw [if_pos (by rfl)]
    refine wp_make_secs (.tmp 12) (.tmp 12) rfl n rfl rfl h2 ?_
    intro wk gn hG hsn hb1
    have hgn : w.heap.size ≤ gn := by rw [hG.out]; exact hk.size
    try (have hne : gf < gn := by rw [hG.out]; exact hsf.lt)
    try replace hsf := hsf.below hb1.out
    replace hk := hk.trans (hb1.out.mono hk.size)
    clear hb1 hG
    try simp only [Act.put, List.setIfInBounds_toArray, List.set_cons_zero, List.set_cons_succ]
    refine hK.out _ _ hk (fun _ => ?_)
    clear hK K
    try simp only [Act.put, List.setIfInBounds_toArray, List.set_cons_zero, List.set_cons_succ]
    refine wpAnyH_take (i := 4) (oi := ⟨some 14, .build 89 #[(0, .tmp 11), (1, .tmp 13)], 89, "disk.go:33", #[⟨1, .data⟩, ⟨3, .data⟩], none⟩) (v := ?vdnew5) rfl (by kernel_rfl) (by kernel_rfl) (by kernel_rfl) (fun _ _ _ h => h) (Or.inl ⟨by rfl, ?ydnew5⟩) hk ?rdnew5
    case ydnew5 => (intro w hSw; (try dsimp only at hSw); go_simp; first | done | with_reducible rfl)
    simp only [Act.put, List.setIfInBounds_toArray, List.set_cons_zero, List.set_cons_succ]
    refine wpAnyH_ready (rs := [5]) (by decide +kernel) (by simp) ?_
    refine AllReadyH.cons (o := ⟨some 15, .box 89 (.tmp 14), 27, "disk.go:33", #[⟨4, .data⟩], none⟩) rfl (fun K hK => ?_) AllReadyH.nil
    go_simp
    have HD : Bx _ := ⟨new_dsk hsf hsn (by omega) hgf hgn hk.size h1 h2⟩
    replace hk := hk.alloc hk.size (.cells #[.slice (some ⟨gf, 0, none⟩) n n, .slice (some ⟨gn, 0, none⟩) n n, .slice none 0 0, .bool false, .int .i64 0, .bool false] 89)
    clear hsf hsn hgf hgn
    generalize wk.heap.size = gg at HD ⊢
    generalize wk.alloc (.cells #[.slice (some ⟨gf, 0, none⟩) n n, .slice (some ⟨gn, 0, none⟩) n n, .slice none 0 0, .bool false, .int .i64 0, .bool false] 89) = wk at hk HD ⊢
    refine hK.out _ _ hk (fun _ => ?_)
    clear hK K
    try simp only [Act.put, List.setIfInBounds_toArray, List.set_cons_zero, List.set_cons_succ]
    refine wpAnyH_take (i := 6) (oi := ⟨some 2, .assign (.tmp 15), 27, "disk.go:33", #[⟨5, .data⟩, ⟨0, .phase⟩, ⟨1, .phase⟩, ⟨2, .phase⟩, ⟨3, .phase⟩, ⟨4, .phase⟩, ⟨5, .phase⟩], none⟩) (v := ?vdnew6) rfl (by kernel_rfl) (by kernel_rfl) (by kernel_rfl) (fun _ _ _ h => h) (Or.inl ⟨by rfl, ?ydnew6⟩) hk ?rdnew6
    case ydnew6 => (intro w hSw; (try dsimp only at hSw); go_simp; first | done | with_reducible rfl)
    simp only [Act.put, List.setIfInBounds_toArray, List.set_cons_zero, List.set_cons_succ]
    refine wpAnyH_take (i := 7) (oi := ⟨some 3, .assign (.const (Value.int IntKind.i64 0)), 28, "disk.go:33", #[⟨6, .chain⟩, ⟨0, .phase⟩, ⟨1, .phase⟩, ⟨2, .phase⟩, ⟨3, .phase⟩, ⟨4, .phase⟩, ⟨5, .phase⟩, ⟨6, .phase⟩], none⟩) (v := ?vdnew7) rfl (by kernel_rfl) (by kernel_rfl) (by kernel_rfl) (fun _ _ _ h => h) (Or.inl ⟨by rfl, ?ydnew7⟩) hk ?rdnew7
    case ydnew7 => (intro w hSw; (try dsimp only at hSw); go_simp; first | done | with_reducible rfl)
    simp only [Act.put, List.setIfInBounds_toArray, List.set_cons_zero, List.set_cons_succ]
    refine wpAnyH_done (by decide +kernel) ?_ _
    clear hne
    go_wp2
    go_ret2
    exact ⟨_, rfl, HD.out, hk⟩
  · rw [if_pos (by rfl)]
    refine wp_make_secs (.tmp 12) (.tmp 12) rfl n rfl rfl h2 ?_
    intro wk gn hG hsn hb1
    have hgn : w.heap.size ≤ gn := by rw [hG.out]; exact hk.size
    try (have hne : gf < gn := by rw [hG.out]; exact hsf.lt)
    try replace hsf := hsf.below hb1.out
    replace hk := hk.trans (hb1.out.mono hk.size)
    clear hb1 hG
    try simp only [Act.put, List.setIfInBounds_toArray, List.set_cons_zero, List.set_cons_succ]
    refine hK.out _ _ hk (fun _ => ?_)
    clear hK K
    try simp only [Act.put, List.setIfInBounds_toArray, List.set_cons_zero, List.set_cons_succ]
    refine wpAnyH_ready (rs := [1]) (by decide +kernel) (by simp) ?_
    refine AllReadyH.cons (o := ⟨some 11, .makeSlice 86 (.tmp 10) (.tmp 10), 86, "disk.go:33", #[⟨0, .data⟩, ⟨0, .data⟩], none⟩) rfl (fun K hK => ?_) AllReadyH.nil
    rw [if_pos (by rfl)]
    refine wp_make_secs (.tmp 10) (.tmp 10) rfl n rfl rfl h2 ?_
    intro wk gf hG hsf hb1
    have hgf : w.heap.size ≤ gf := by rw [hG.out]; exact hk.size
    try (have hne : gn < gf := by rw [hG.out]; exact hsn.lt)
    try replace hsn := hsn.below hb1.out
    replace hk := hk.trans (hb1.out.mono hk.size)
    clear hb1 hG
    try simp only [Act.put, List.setIfInBounds_toArray, List.set_cons_zero, List.set_cons_succ]
    refine hK.out _ _ hk (fun _ => ?_)
    clear hK K
    try simp only [Act.put, List.setIfInBounds_toArray, List.set_cons_zero, List.set_cons_succ]
    refine wpAnyH_take (i := 4) (oi := ⟨some 14, .build 89 #[(0, .tmp 11), (1, .tmp 13)], 89, "disk.go:33", #[⟨1, .data⟩, ⟨3, .data⟩], none⟩) (v := ?vdnew10) rfl (by kernel_rfl) (by kernel_rfl) (by kernel_rfl) (fun _ _ _ h => h) (Or.inl ⟨by rfl, ?ydnew10⟩) hk ?rdnew10
    case ydnew10 => (intro w hSw; (try dsimp only at hSw); go_simp; first | done | with_reducible rfl)
    simp only [Act.put, List.setIfInBounds_toArray, List.set_cons_zero, List.set_cons_succ]
    refine wpAnyH_ready (rs := [5]) (by decide +kernel) (by simp) ?_
    refine AllReadyH.cons (o := ⟨some 15, .box 89 (.tmp 14), 27, "disk.go:33", #[⟨4, .data⟩], none⟩) rfl (fun K hK => ?_) AllReadyH.nil
    go_simp
    have HD : Bx _ := ⟨new_dsk hsf hsn (by omega) hgf hgn hk.size h1 h2⟩
    replace hk := hk.alloc hk.size (.cells #[.slice (some ⟨gf, 0, none⟩) n n, .slice (some ⟨gn, 0, none⟩) n n, .slice none 0 0, .bool false, .int .i64 0, .bool false] 89)
    clear hsf hsn hgf hgn
    generalize wk.heap.size = gg at HD ⊢
    generalize wk.alloc (.cells #[.slice (some ⟨gf, 0, none⟩) n n, .slice (some ⟨gn, 0, none⟩) n n, .slice none 0 0, .bool false, .int .i64 0, .bool false] 89) = wk at hk HD ⊢
    refine hK.out _ _ hk (fun _ => ?_)
    clear hK K
    try simp only [Act.put, List.setIfInBounds_toArray, List.set_cons_zero, List.set_cons_succ]
    refine wpAnyH_take (i := 6) (oi := ⟨some 2, .assign (.tmp 15), 27, "disk.go:33", #[⟨5, .data⟩, ⟨0, .phase⟩, ⟨1, .phase⟩, ⟨2, .phase⟩, ⟨3, .phase⟩, ⟨4, .phase⟩, ⟨5, .phase⟩], none⟩) (v := ?vdnew11) rfl (by kernel_rfl) (by kernel_rfl) (by kernel_rfl) (fun _ _ _ h => h) (Or.inl ⟨by rfl, ?ydnew11⟩) hk ?rdnew11
    case ydnew11 => (intro w hSw; (try dsimp only at hSw); go_simp; first | done | with_reducible rfl)
    simp only [Act.put, List.setIfInBounds_toArray, List.set_cons_zero, List.set_cons_succ]
    refine wpAnyH_take (i := 7) (oi := ⟨some 3, .assign (.const (Value.int IntKind.i64 0)), 28, "disk.go:33", #[⟨6, .chain⟩, ⟨0, .phase⟩, ⟨1, .phase⟩, ⟨2, .phase⟩, ⟨3, .phase⟩, ⟨4, .phase⟩, ⟨5, .phase⟩, ⟨6, .phase⟩], none⟩) (v := ?vdnew12) rfl (by kernel_rfl) (by kernel_rfl) (by kernel_rfl) (fun _ _ _ h => h) (Or.inl ⟨by rfl, ?ydnew12⟩) hk ?rdnew12
    case ydnew12 => (intro w hSw; (try dsimp only at hSw); go_simp; first | done | with_reducible rfl)
    simp only [Act.put, List.setIfInBounds_toArray, List.set_cons_zero, List.set_cons_succ]
    refine wpAnyH_done (by decide +kernel) ?_ _
    clear hne
    go_wp2
    go_ret2
    exact ⟨_, rfl, HD.out, hk⟩
set_option maxHeartbeats 400000 in
theorem step_last (g : Nat) (own : Nat → Prop) (s : DS) (w : World) (h : Dsk w g own s) (hl : s.last = true) :
    Calls Tryz.prog 282 #[.pointer (some ⟨g, 0, none⟩)] w fun e w' => e = .returned (.int .i64 14) ∧ Dsk w' g own s.dead ∧ Kept own w w' := by
  obtain ⟨gf, gn, vo, hR⟩ := h
  have c3 := hR.c3
  have c4 := hR.c4
  have c5 := hR.c5
  have f5 := hR.fr 5
  have hl2 : s.armed = true ∧ s.left = 0 := by simpa [DS.last] using hl
  have HD : Bx (Dsk (w.setCell ⟨g, 5, none⟩ (.bool true)) g own s.dead) := ⟨⟨gf, gn, vo, hR.setOff true⟩⟩
  have HK : Bx (Kept own w (w.setCell ⟨g, 5, none⟩ (.bool true))) := ⟨(Kept.refl own w).setCell (.inl hR.og) 5 _⟩
  rw [hl2.1] at c3
  rw [hl2.2] at c4
  clear hR hl hl2
  go_enter Tryz.func282, Tryz.ntmps282
  go_wp2
  go_ret
  exact ⟨rfl, HD.out, HK.out⟩
set_option maxHeartbeats 400000 in
theorem step_on (g : Nat) (own : Nat → Prop) (s : DS) (w : World) (h : Dsk w g own s) (hl : s.last = false) :
    Calls Tryz.prog 282 #[.pointer (some ⟨g, 0, none⟩)] w fun e w' => e = .returned (.int .i64 0) ∧ Dsk w' g own s.tick ∧ Kept own w w' := by
  have hok := h.ok
  have H : Bx (Dsk w g own s) := ⟨h⟩
  obtain ⟨gf, gn, vo, hR⟩ := h
  have c3 := hR.c3
  have c4 := hR.c4
  have f4 := hR.fr 4
  by_cases ha : s.armed = true
  · have hp := DS.last_pos hok hl ha
    have hx := hok.left
    have hD : Dsk (w.setCell ⟨g, 4, none⟩ (.int .i64 (s.left - 1))) g own s.tick := by
      have h1 := hR.setLeft (s.left - 1) (by omega)
      refine ⟨gf, gn, vo, ?_⟩
      have e : s.tick = { s with left := s.left - 1 } := by unfold DS.tick; rw [if_pos ha]
      rw [e]; exact h1
    have HD : Bx _ := ⟨hD⟩
    have HK : Bx (Kept own w (w.setCell ⟨g, 4, none⟩ (.int .i64 (s.left - 1)))) := ⟨(Kept.refl own w).setCell (.inl hR.og) 4 _⟩
    rw [ha] at c3
    have hq : (s.left == 0) = false := by simp; omega
    clear hR hl ha hok hD
    generalize s.left = x at c4 hp hx HD HK hq
    go_enter Tryz.func282, Tryz.ntmps282
    go_wp2
    go_ret
    exact ⟨rfl, HD.out, HK.out⟩
  · have e : s.tick = s := by unfold DS.tick; rw [if_neg ha]
    have HD : Bx (Dsk w g own s.tick) := ⟨by rw [e]; exact H.out⟩
    rw [show s.armed = false from by simpa using ha] at c3
    clear hR hl ha hok e H
    go_enter Tryz.func282, Tryz.ntmps282
    go_wp2
    go_ret
    exact ⟨rfl, HD.out, Kept.refl _ _⟩
end Go.Proofs.YtipakjenggeflaaGreatDoor
namespace Go.Proofs.YtipakjenggeflaaGreatDoor
open Go.RowKit
set_option linter.unusedVariables false

/-- a ledger's variable: 67 cells -/
structure LgR (w : World) (own : Nat → Prop) (g : Nat) (K : List Int) (T : List (List Int)) (cs : Array Value) : Prop where
  row : w.heap[g]? = some (.cells cs 132 (0, 0))
  size : cs.size = 67
  made : cs[0]? = some (.bool true)
  key : ∃ a n c, cs[1]? = some (.slice a n c) ∧ Bts w a n c K ∧ (0 < n → ∀ p, a = some p → own p.block)
  txt : ∀ i, i < 64 → ∃ a n c, cs[2 + i]? = some (.slice a n c) ∧ (i < T.length → Bts w a n c (T.getD i []) ∧ (0 < n → ∀ p, a = some p → own p.block))
  num : cs[66]? = some (.int .i64 (T.length : Int))
/-- a ledger with its key and its texts; own: its blocks -/
structure Lg (w : World) (own : Nat → Prop) (g : Nat) (K : List Int) (T : List (List Int)) : Prop where
  og : own g
  lt : ∀ b, own b → b < w.heap.size
  le : T.length ≤ 64
  fit : ∀ t ∈ T, t.length ≤ 160
  kle : K.length ≤ 1000000
  row : ∃ cs, LgR w own g K T cs
section
variable {w w' : World} {own : Nat → Prop} {g : Nat} {K : List Int} {T : List (List Int)}
set_option maxRecDepth 100000 in
theorem Lg.keep (h : Lg w own g K T) (hb : ∀ b, own b → w'.heap[b]? = w.heap[b]?) (hs : w.heap.size ≤ w'.heap.size) : Lg w' own g K T := by
  obtain ⟨cs, r⟩ := h.row
  refine ⟨h.og, fun b hb => Nat.lt_of_lt_of_le (h.lt b hb) hs, h.le, h.fit, h.kle, cs, (hb g h.og).trans r.row, r.size, r.made, ?_, fun i hi => ?_, r.num⟩
  · obtain ⟨a, n, c, e1, e2, e3⟩ := r.key
    exact ⟨a, n, c, e1, e2.keep (fun hp p e => hb _ (e3 hp p e)) hs, e3⟩
  · obtain ⟨a, n, c, e1, e2⟩ := r.txt i hi
    exact ⟨a, n, c, e1, fun hT => ⟨(e2 hT).1.keep (fun hp p e => hb _ ((e2 hT).2 hp p e)) hs, (e2 hT).2⟩⟩
set_option maxRecDepth 100000 in
theorem Lg.below (h : Lg w own g K T) (hb : Below w.heap.size w w') : Lg w' own g K T := h.keep (fun b ho => hb.block b (h.lt b ho)) hb.size
set_option maxRecDepth 100000 in
theorem Lg.kept {own2 : Nat → Prop} (h : Lg w own g K T) (hb : Kept own2 w w') (ho : ∀ b, own b → ¬ own2 b) : Lg w' own g K T := h.keep (fun b hb2 => hb.block b (h.lt b hb2) (ho b hb2)) hb.size
end
end Go.Proofs.YtipakjenggeflaaGreatDoor
