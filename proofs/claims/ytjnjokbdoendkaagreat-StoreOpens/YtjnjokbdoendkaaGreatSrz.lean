/- What lays of the document's own log answers. Append of the document's own log. Open of the document's own log. -/
import Derived.Test.YtjnjokbdoendkaaGreatSra
import Derived.Deep.CutRange
import Derived.Deep.RegionHeld3
namespace Go.Proofs.YtjnjokbdoendkaaGreat
open Go.RowKit
set_option linter.unusedVariables false

set_option maxRecDepth 100000 in
set_option maxHeartbeats 2000000 in
theorem lays_any (gl g : Nat) (own : Nat → Prop) (s : DS) (m next n : Nat) (a : Option Addr) (len cap : Nat) (f : List Int) (w : World) (hD : RS w g own s m) (hok : s.Ok) (hc0 : w.cell? ⟨gl, 0, none⟩ = some (.pointer (some ⟨g, 0, none⟩))) (hc2 : w.cell? ⟨gl, 2, none⟩ = some (.int .i64 (next : Int))) (hgl : ¬ own gl)
    (hbt : Bts w a len cap f) (hfar : 0 < len → ∀ p, a = some p → ¬ own p.block) (hp : 0 < len) (hlen : len ≤ 20000) (hn : n = ns len) (hm : m + n ≤ 990) (hnx : next ≤ 4096) :
    Calls Tryz.prog 84 #[.pointer (some ⟨gl, 0, none⟩), .slice a len cap, .int .i64 (n : Int)] w fun e w' => e = .returned (.int .i64 (s.apW next (prt f)).2) ∧ ∃ own', RS w' g own' (s.apW next (prt f)).1 (m + n + 1) ∧ Did own w w' own' := by
  have hgs : gl < w.heap.size := World.block_lt_of_cell? w _ hc0
  have HCL : Bx (∀ W own2, Did own w W own2 → W.cell? ⟨gl, 0, none⟩ = some (.pointer (some ⟨g, 0, none⟩)) ∧ W.cell? ⟨gl, 2, none⟩ = some (.int .i64 (next : Int))) := ⟨fun W own2 hd => ⟨cell_did hd hgs hgl hc0, cell_did hd hgs hgl hc2⟩⟩
  have HBT : Bx (∀ W own2, Did own w W own2 → Bts W a len cap f ∧ (0 < len → ∀ p, a = some p → ¬ own2 p.block)) := ⟨fun W own2 hd => ⟨hbt.keep (fun hp p e => hd.kept.block _ (hbt.lt hp e) (hfar hp p e)) hd.kept.size, fun hp p e ho => by
    rcases hd.new _ ho with h1 | h1
    · exact hfar hp p e h1
    · have := hbt.lt hp e; omega⟩⟩
  have hl := hbt.len_eq
  have hlc := hbt.le_cap
  have hcm := hbt.cap_le
  unfold maxLen at hcm
  have HPL : Bx ((prt f).length = n) := ⟨by rw [prt_len, hl, hn]⟩
  have HPG : Bx (∀ k, k < n → (prt f).getD k [] = (f.drop (64 * k)).take 64) := ⟨fun k hk => prt_getD f k (by rw [hl, ← hn]; exact hk)⟩
  have HD0 : Bx (RS w g own s (m + 1)) := ⟨hD.le (by omega)⟩
  have HOK0 := Bx.mk hok
  have hn1 : 1 ≤ n := by rw [hn]; unfold ns; omega
  have hn2 : 64 * n ≤ len + 63 := by rw [hn]; unfold ns; omega
  have hn3 : len ≤ 64 * n := by rw [hn]; unfold ns; omega
  obtain ⟨b, off, rfl, _, _⟩ := hbt.spot hp
  have HFB : Bx (Byt f) := ⟨hbt.byt⟩
  have HFL : Bx (f.length = len) := ⟨hl⟩
  clear hD hok hc0 hc2 hgl hbt hfar hgs hl hn
  obtain ⟨P, HP⟩ : ∃ P, Bx (P = prt f) := ⟨_, ⟨rfl⟩⟩
  rw [← HP.out] at HPL HPG ⊢
  clear HP
  go_enter Tryz.func84, Tryz.ntmps84
  go_wp2_with fail
  go_loopw [7] (fun i wr => ∃ (j : Nat) (s1 : DS) (own1 : Nat → Prop), 1 ≤ j ∧ j ≤ n ∧ i = .int .i64 (j : Int) ∧ Bx (wrL s1 (next + j) (P.drop j) = wrL s (next + 1) (P.drop 1)) ∧ Bx s1.Ok ∧ Bx (RS wr g own1 s1 (m + j)) ∧ Bx (Did own w wr own1)) (fun i _ => n - (intOf i).toNat)
  case atStart => exact ⟨1, s, own, Nat.le_refl _, hn1, rfl, ⟨rfl⟩, HOK0, HD0, ⟨Did.same (Kept.refl _ _)⟩⟩
  case round =>
    obtain ⟨j, s1, own1, hj1, hjn, rfl, HW, HOK, HD1, HDI⟩ := hrel
    clear HD0 HOK0
    by_cases hlt : j < n
    · have hjI : (j : Int) < (n : Int) := by omega
      have hbt1 := (HBT.out wr own1 HDI.out).1
      have hfr0 := (HBT.out wr own1 HDI.out).2 hp
      have HGO0 : Bx (s1.wrE ((next + j : Nat) : Int) (P.getD j []) = 0 → wrL (s1.wr ((next + j : Nat) : Int) (P.getD j [])) (next + (j + 1)) (P.drop (j + 1)) = wrL s (next + 1) (P.drop 1)) := ⟨fun he => by
        rw [← HW.out, wrL_go (by rw [HPL.out]; omega) he]; rfl⟩
      have HER0 : Bx (s1.wrE ((next + j : Nat) : Int) (P.getD j []) ≠ 0 → s.apW next P = (s1.wr ((next + j : Nat) : Int) (P.getD j []), s1.wrE ((next + j : Nat) : Int) (P.getD j []))) := ⟨fun he => by
        refine apW_err ?_ he
        rw [← HW.out, wrL_er (by rw [HPL.out]; omega) he]⟩
      have HY0 : Bx (P.getD j [] = (f.drop (64 * j)).take 64) := ⟨HPG.out j hlt⟩
      obtain ⟨y, hy⟩ : ∃ y, y = P.getD j [] := ⟨_, rfl⟩
      have HGO : Bx (s1.wrE ((next + j : Nat) : Int) y = 0 → wrL (s1.wr ((next + j : Nat) : Int) y) (next + (j + 1)) (P.drop (j + 1)) = wrL s (next + 1) (P.drop 1)) := ⟨by rw [hy]; exact HGO0.out⟩
      have HER : Bx (s1.wrE ((next + j : Nat) : Int) y ≠ 0 → s.apW next P = (s1.wr ((next + j : Nat) : Int) y, s1.wrE ((next + j : Nat) : Int) y)) := ⟨by rw [hy]; exact HER0.out⟩
      have HY1 : Bx (y = (f.drop (64 * j)).take 64) := ⟨by rw [hy]; exact HY0.out⟩
      have HYB : Bx (Byt y) := ⟨by rw [HY1.out]; exact fun c hc => HFB.out c (List.mem_of_mem_drop (List.mem_of_mem_take hc))⟩
      have hfr : ∀ e : Nat, (0 < e → ∀ p : Addr, some ⟨b, off + 64 * j, none⟩ = some p → ¬ own1 p.block) := fun e _ p h => by
        obtain rfl := Option.some.inj h
        exact hfr0 ⟨b, off, none⟩ rfl
      replace hfr := hfr
      clear hy HGO0 HER0 HY0 hfr0
      by_cases hend : len < 64 * j + 64
      · have hendI : (64 * (j : Int) + 64 > (len : Int)) := by omega
        have hpt := hbt1.part (64 * j) (len - 64 * j) (cap - 64 * j) (by omega) (by omega) (by unfold maxLen; omega)
        have HY : Bx (y = (f.drop (64 * j)).take (len - 64 * j)) := ⟨by
          rw [HY1.out, List.take_of_length_le (by rw [List.length_drop, HFL.out]; omega), List.take_of_length_le (by rw [List.length_drop, HFL.out]; omega)]⟩
        replace hfr := hfr (len - 64 * j)
        have he1 : (64 : Int) * (j : Int) ≤ (len : Int) := by omega
        clear hbt1 HY1
        have hk : wr.drew.cell? ⟨gl, 0, none⟩ = some (.pointer (some ⟨g, 0, none⟩)) ∧ wr.drew.cell? ⟨gl, 2, none⟩ = some (.int .i64 (next : Int)) := ⟨(HCL.out wr own1 HDI.out).1, (HCL.out wr own1 HDI.out).2⟩
        have HDk : Bx (RS wr.drew g own1 s1 (m + j)) := ⟨HD1.out.drewN 1⟩
        have HBk : Bx (Bts wr.drew (some ⟨b, off + 64 * j, none⟩) (len - 64 * j) (cap - 64 * j) y ∧ (0 < (len - 64 * j) → ∀ p : Addr, some ⟨b, off + 64 * j, none⟩ = some p → ¬ own1 p.block)) := ⟨by rw [HY.out]; exact hpt.drewN 1, hfr⟩
        replace HDI : Bx (Did own w wr.drew own1) := ⟨HDI.out.trans (Did.same ((Kept.refl own1 wr).drewN 1))⟩
        have hw2 : IntKind.i64.wrap ((next : Int) + (j : Int)) = (next : Int) + (j : Int) := IntWalk.i64_in _ (by omega)
        have hw3 : IntKind.i64.wrap (64 * (j : Int)) = 64 * (j : Int) := IntWalk.i64_in _ (by omega)
        have hcj : ¬ cap = 64 * j := by omega
        have hz0 : (0 : Int) ≤ 64 * (j : Int) := by omega
        have hz1 : (64 * (j : Int)).toNat = 64 * j := by omega
        clear HD1 HW hpt hfr HY
        go_wp2_with fail
        refine wp_region_held_drew (S := fun W => W.cell? ⟨gl, 0, none⟩ = some (.pointer (some ⟨g, 0, none⟩)) ∧ W.cell? ⟨gl, 2, none⟩ = some (.int .i64 (next : Int))) (by kernel_rfl) hk (fun _ => ?_)
        generalize wr.drew = wd at hk HDk HBk HDI ⊢
        refine wpAnyH_take (i := 0) (oi := ⟨some 26, .move (.tmp 0), 69, "ref.go:101", #[], none⟩) (v := ?vrly71) rfl (by kernel_rfl) (by kernel_rfl) (by kernel_rfl) (fun _ _ _ h => h) (Or.inl ⟨by rfl, ?yrly71⟩) hk ?rrly71
        case yrly71 => (intro w hSw; (try dsimp only at hSw); go_simp; first | done | with_reducible rfl)
        simp only [Act.put, List.setIfInBounds_toArray, List.set_cons_zero, List.set_cons_succ]
        refine wpAnyH_take (i := 1) (oi := ⟨some 27, .nilCheck (.tmp 26), 0, "ref.go:101", #[⟨0, .data⟩], none⟩) (v := ?vrly72) rfl (by kernel_rfl) (by kernel_rfl) (by kernel_rfl) (fun _ _ _ h => h) (Or.inl ⟨by rfl, ?yrly72⟩) hk ?rrly72
        case yrly72 => (intro w hSw; (try dsimp only at hSw); go_simp; first | done | with_reducible rfl)
        simp only [Act.put, List.setIfInBounds_toArray, List.set_cons_zero, List.set_cons_succ]
        refine wpAnyH_take (i := 2) (oi := ⟨some 28, .fieldAddr 94 (.tmp 27) 0, 0, "ref.go:101", #[⟨1, .data⟩], none⟩) (v := ?vrly73) rfl (by kernel_rfl) (by kernel_rfl) (by kernel_rfl) (fun _ _ _ h => h) (Or.inl ⟨by rfl, ?yrly73⟩) hk ?rrly73
        case yrly73 => (intro w hSw; (try dsimp only at hSw); go_simp; first | done | with_reducible rfl)
        simp only [Act.put, List.setIfInBounds_toArray, List.set_cons_zero, List.set_cons_succ]
        refine wpAnyH_take (i := 3) (oi := ⟨some 29, .load 29 (.tmp 28), 29, "ref.go:101", #[⟨2, .data⟩], none⟩) (v := ?vrly74) rfl (by kernel_rfl) (by kernel_rfl) (by kernel_rfl) (fun _ _ _ h => h) (Or.inl ⟨by rfl, ?yrly74⟩) hk ?rrly74
        case yrly74 => (intro w hSw; have hcw := hSw.1; clear hSw; go_simp; first | done | with_reducible rfl)
        simp only [Act.put, List.setIfInBounds_toArray, List.set_cons_zero, List.set_cons_succ]
        refine wpAnyH_take (i := 4) (oi := ⟨some 30, .move (.tmp 0), 69, "ref.go:101", #[], none⟩) (v := ?vrly75) rfl (by kernel_rfl) (by kernel_rfl) (by kernel_rfl) (fun _ _ _ h => h) (Or.inl ⟨by rfl, ?yrly75⟩) hk ?rrly75
        case yrly75 => (intro w hSw; (try dsimp only at hSw); go_simp; first | done | with_reducible rfl)
        simp only [Act.put, List.setIfInBounds_toArray, List.set_cons_zero, List.set_cons_succ]
        refine wpAnyH_take (i := 5) (oi := ⟨some 31, .nilCheck (.tmp 30), 0, "ref.go:101", #[⟨4, .data⟩], none⟩) (v := ?vrly76) rfl (by kernel_rfl) (by kernel_rfl) (by kernel_rfl) (fun _ _ _ h => h) (Or.inl ⟨by rfl, ?yrly76⟩) hk ?rrly76
        case yrly76 => (intro w hSw; (try dsimp only at hSw); go_simp; first | done | with_reducible rfl)
        simp only [Act.put, List.setIfInBounds_toArray, List.set_cons_zero, List.set_cons_succ]
        refine wpAnyH_take (i := 6) (oi := ⟨some 32, .fieldAddr 94 (.tmp 31) 2, 0, "ref.go:101", #[⟨5, .data⟩], none⟩) (v := ?vrly77) rfl (by kernel_rfl) (by kernel_rfl) (by kernel_rfl) (fun _ _ _ h => h) (Or.inl ⟨by rfl, ?yrly77⟩) hk ?rrly77
        case yrly77 => (intro w hSw; (try dsimp only at hSw); go_simp; first | done | with_reducible rfl)
        simp only [Act.put, List.setIfInBounds_toArray, List.set_cons_zero, List.set_cons_succ]
        refine wpAnyH_take (i := 7) (oi := ⟨some 33, .load 3 (.tmp 32), 3, "ref.go:101", #[⟨6, .data⟩], none⟩) (v := ?vrly78) rfl (by kernel_rfl) (by kernel_rfl) (by kernel_rfl) (fun _ _ _ h => h) (Or.inl ⟨by rfl, ?yrly78⟩) hk ?rrly78
        case yrly78 => (intro w hSw; have hcw := hSw.2; clear hSw; go_simp; first | done | with_reducible rfl)
        simp only [Act.put, List.setIfInBounds_toArray, List.set_cons_zero, List.set_cons_succ]
        refine wpAnyH_take (i := 8) (oi := ⟨some 34, .move (.tmp 7), 3, "ref.go:101", #[], none⟩) (v := ?vrly79) rfl (by kernel_rfl) (by kernel_rfl) (by kernel_rfl) (fun _ _ _ h => h) (Or.inl ⟨by rfl, ?yrly79⟩) hk ?rrly79
        case yrly79 => (intro w hSw; (try dsimp only at hSw); go_simp; first | done | with_reducible rfl)
        simp only [Act.put, List.setIfInBounds_toArray, List.set_cons_zero, List.set_cons_succ]
        refine wpAnyH_take (i := 9) (oi := ⟨some 35, .binOp .add 3 (.tmp 33) (.tmp 34) 3, 3, "ref.go:101", #[⟨7, .data⟩, ⟨8, .data⟩], none⟩) (v := ?vrly710) rfl (by kernel_rfl) (by kernel_rfl) (by kernel_rfl) (fun _ _ _ h => h) (Or.inl ⟨by rfl, ?yrly710⟩) hk ?rrly710
        case yrly710 => (intro w hSw; (try dsimp only at hSw); go_simp; first | done | with_reducible rfl)
        simp only [Act.put, List.setIfInBounds_toArray, List.set_cons_zero, List.set_cons_succ]
        refine wpAnyH_take (i := 10) (oi := ⟨some 36, .move (.tmp 1), 46, "ref.go:101", #[], none⟩) (v := ?vrly711) rfl (by kernel_rfl) (by kernel_rfl) (by kernel_rfl) (fun _ _ _ h => h) (Or.inl ⟨by rfl, ?yrly711⟩) hk ?rrly711
        case yrly711 => (intro w hSw; (try dsimp only at hSw); go_simp; first | done | with_reducible rfl)
        simp only [Act.put, List.setIfInBounds_toArray, List.set_cons_zero, List.set_cons_succ]
        refine wpAnyH_take (i := 11) (oi := ⟨some 37, .move (.tmp 7), 3, "ref.go:101", #[], none⟩) (v := ?vrly712) rfl (by kernel_rfl) (by kernel_rfl) (by kernel_rfl) (fun _ _ _ h => h) (Or.inl ⟨by rfl, ?yrly712⟩) hk ?rrly712
        case yrly712 => (intro w hSw; (try dsimp only at hSw); go_simp; first | done | with_reducible rfl)
        simp only [Act.put, List.setIfInBounds_toArray, List.set_cons_zero, List.set_cons_succ]
        refine wpAnyH_take (i := 12) (oi := ⟨some 38, .binOp .mul 3 (.const (Value.int IntKind.i64 64)) (.tmp 37) 3, 3, "ref.go:101", #[⟨11, .data⟩], none⟩) (v := ?vrly713) rfl (by kernel_rfl) (by kernel_rfl) (by kernel_rfl) (fun _ _ _ h => h) (Or.inl ⟨by rfl, ?yrly713⟩) hk ?rrly713
        case yrly713 => (intro w hSw; (try dsimp only at hSw); go_simp; first | done | with_reducible rfl)
        simp only [Act.put, List.setIfInBounds_toArray, List.set_cons_zero, List.set_cons_succ]
        refine wpAnyH_take (i := 13) (oi := ⟨some 39, .move (.tmp 8), 3, "ref.go:101", #[], none⟩) (v := ?vrly714) rfl (by kernel_rfl) (by kernel_rfl) (by kernel_rfl) (fun _ _ _ h => h) (Or.inl ⟨by rfl, ?yrly714⟩) hk ?rrly714
        case yrly714 => (intro w hSw; (try dsimp only at hSw); go_simp; first | done | with_reducible rfl)
        simp only [Act.put, List.setIfInBounds_toArray, List.set_cons_zero, List.set_cons_succ]
        refine wpAnyH_take (i := 14) (oi := ⟨some 40, .slice 46 (.tmp 36) (some (.tmp 38)) (some (.tmp 39)) none, 46, "ref.go:101", #[⟨10, .data⟩, ⟨12, .data⟩, ⟨13, .data⟩], none⟩) (v := ?vrly715) rfl (by kernel_rfl) (by kernel_rfl) (by kernel_rfl) (fun _ _ _ h => h) (Or.inl ⟨by rfl, ?yrly715⟩) hk ?rrly715
        case yrly715 => (intro w hSw; (try dsimp only at hSw); go_simp; first | done | with_reducible rfl)
        simp only [Act.put, List.setIfInBounds_toArray, List.set_cons_zero, List.set_cons_succ]
        refine wpAnyH_ready (rs := [15]) (by decide +kernel) (by simp) ?_
        refine AllReadyH.cons (o := ⟨some 41, .call { callee := .value (.func 68), args := #[.tmp 29, .tmp 35, .tmp 40], argTypes := #[29, 3, 46] }, 3, "ref.go:101", #[⟨3, .data⟩, ⟨9, .data⟩, ⟨14, .data⟩], none⟩) rfl (fun K hK => ?_) AllReadyH.nil
        go_simp
        refine (rwrite_any g own1 s1 (m + j) _ _ _ _ y _ HDk.out HOK.out (by omega) HBk.out.1 HBk.out.2).mono ?_
        rintro e1 w8 ⟨rfl, own3, hD3, hdid3⟩
        replace hk : w8.cell? ⟨gl, 0, none⟩ = some (.pointer (some ⟨g, 0, none⟩)) ∧ w8.cell? ⟨gl, 2, none⟩ = some (.int .i64 (next : Int)) := HCL.out w8 own3 (HDI.out.trans hdid3)
        have HD3 : Bx _ := ⟨hD3⟩
        have HDI3 : Bx _ := ⟨HDI.out.trans hdid3⟩
        clear hD3 hdid3
        refine hK.out _ _ hk (fun _ => ?_)
        clear hK K
        try simp only [Act.put, List.setIfInBounds_toArray, List.set_cons_zero, List.set_cons_succ]
        refine wpAnyH_take (i := 16) (oi := ⟨some 9, .assign (.tmp 41), 3, "ref.go:101", #[⟨15, .data⟩, ⟨15, .chain⟩, ⟨0, .phase⟩, ⟨1, .phase⟩, ⟨2, .phase⟩, ⟨3, .phase⟩, ⟨4, .phase⟩, ⟨5, .phase⟩, ⟨6, .phase⟩, ⟨7, .phase⟩, ⟨8, .phase⟩, ⟨9, .phase⟩, ⟨10, .phase⟩, ⟨11, .phase⟩, ⟨12, .phase⟩, ⟨13, .phase⟩, ⟨14, .phase⟩, ⟨15, .phase⟩], none⟩) (v := ?vrly716) rfl (by kernel_rfl) (by kernel_rfl) (by kernel_rfl) (fun _ _ _ h => h) (Or.inl ⟨by rfl, ?yrly716⟩) hk ?rrly716
        case yrly716 => (intro w hSw; (try dsimp only at hSw); go_simp; first | done | with_reducible rfl)
        simp only [Act.put, List.setIfInBounds_toArray, List.set_cons_zero, List.set_cons_succ]
        refine wpAnyH_done (by decide +kernel) ?_ _
        clear HDk HBk HDI hk
        have hx : (next : Int) + (j : Int) = ((next + j : Nat) : Int) := by omega
        rw [hx] at HD3 ⊢
        clear hw2 hw3 hx
        by_cases he : s1.wrE ((next + j : Nat) : Int) y = 0
        · have HW' : Bx _ := ⟨HGO.out he⟩
          have HOK' : Bx ((s1.wr ((next + j : Nat) : Int) y).Ok) := ⟨DS.wr_ok HOK.out _ HYB.out⟩
          rw [he]
          clear he HGO HER
          generalize s1.wr ((next + j : Nat) : Int) y = s2 at HW' HOK' HD3
          go_wp2
          go_roundw
          case rel => exact ⟨j + 1, s2, own3, by omega, by omega, by go_num, HW', HOK', HD3, HDI3⟩
          case measure => simp [intOf]; omega
        · have HA : Bx _ := ⟨HER.out he⟩
          have heb : (s1.wrE ((next + j : Nat) : Int) y != 0) = true := by simpa using he
          clear he HGO HER
          generalize s1.wrE ((next + j : Nat) : Int) y = E at HA heb ⊢
          go_wp2
          go_ret
          exact ⟨by rw [HA.out]; rfl, own3, by rw [HA.out]; exact HD3.out.le (by omega), HDI3.out⟩
      · have hendI : ¬ (64 * (j : Int) + 64 > (len : Int)) := by omega
        have hpt := hbt1.part (64 * j) 64 (cap - 64 * j) (by omega) (by omega) (by unfold maxLen; omega)
        have HY : Bx (y = (f.drop (64 * j)).take 64) := ⟨HY1.out⟩
        replace hfr := hfr 64
        have hz2 : (0 : Int) ≤ 64 * (j : Int) + 64 := by omega
        have hz3 : (64 * (j : Int)) ≤ max (64 * (j : Int) + 64) 0 := by omega
        have hz4 : (64 * (j : Int) + 64).toNat - 64 * j = 64 := by omega
        have he1 : (64 : Int) * (j : Int) + 64 ≤ (cap : Int) := by omega
        clear hbt1 HY1
        have hk : wr.drew.cell? ⟨gl, 0, none⟩ = some (.pointer (some ⟨g, 0, none⟩)) ∧ wr.drew.cell? ⟨gl, 2, none⟩ = some (.int .i64 (next : Int)) := ⟨(HCL.out wr own1 HDI.out).1, (HCL.out wr own1 HDI.out).2⟩
        have HDk : Bx (RS wr.drew g own1 s1 (m + j)) := ⟨HD1.out.drewN 1⟩
        have HBk : Bx (Bts wr.drew (some ⟨b, off + 64 * j, none⟩) 64 (cap - 64 * j) y ∧ (0 < 64 → ∀ p : Addr, some ⟨b, off + 64 * j, none⟩ = some p → ¬ own1 p.block)) := ⟨by rw [HY.out]; exact hpt.drewN 1, hfr⟩
        replace HDI : Bx (Did own w wr.drew own1) := ⟨HDI.out.trans (Did.same ((Kept.refl own1 wr).drewN 1))⟩
        have hw2 : IntKind.i64.wrap ((next : Int) + (j : Int)) = (next : Int) + (j : Int) := IntWalk.i64_in _ (by omega)
        have hw3 : IntKind.i64.wrap (64 * (j : Int)) = 64 * (j : Int) := IntWalk.i64_in _ (by omega)
        have hcj : ¬ cap = 64 * j := by omega
        have hz0 : (0 : Int) ≤ 64 * (j : Int) := by omega
        have hz1 : (64 * (j : Int)).toNat = 64 * j := by omega
        clear HD1 HW hpt hfr HY
        go_wp2_with fail
        refine wp_region_held_drew (S := fun W => W.cell? ⟨gl, 0, none⟩ = some (.pointer (some ⟨g, 0, none⟩)) ∧ W.cell? ⟨gl, 2, none⟩ = some (.int .i64 (next : Int))) (by kernel_rfl) hk (fun _ => ?_)
        generalize wr.drew = wd at hk HDk HBk HDI ⊢
        refine wpAnyH_take (i := 0) (oi := ⟨some 26, .move (.tmp 0), 69, "ref.go:101", #[], none⟩) (v := ?vrly7b1) rfl (by kernel_rfl) (by kernel_rfl) (by kernel_rfl) (fun _ _ _ h => h) (Or.inl ⟨by rfl, ?yrly7b1⟩) hk ?rrly7b1
        case yrly7b1 => (intro w hSw; (try dsimp only at hSw); go_simp; first | done | with_reducible rfl)
        simp only [Act.put, List.setIfInBounds_toArray, List.set_cons_zero, List.set_cons_succ]
        refine wpAnyH_take (i := 1) (oi := ⟨some 27, .nilCheck (.tmp 26), 0, "ref.go:101", #[⟨0, .data⟩], none⟩) (v := ?vrly7b2) rfl (by kernel_rfl) (by kernel_rfl) (by kernel_rfl) (fun _ _ _ h => h) (Or.inl ⟨by rfl, ?yrly7b2⟩) hk ?rrly7b2
        case yrly7b2 => (intro w hSw; (try dsimp only at hSw); go_simp; first | done | with_reducible rfl)
        simp only [Act.put, List.setIfInBounds_toArray, List.set_cons_zero, List.set_cons_succ]
        refine wpAnyH_take (i := 2) (oi := ⟨some 28, .fieldAddr 94 (.tmp 27) 0, 0, "ref.go:101", #[⟨1, .data⟩], none⟩) (v := ?vrly7b3) rfl (by kernel_rfl) (by kernel_rfl) (by kernel_rfl) (fun _ _ _ h => h) (Or.inl ⟨by rfl, ?yrly7b3⟩) hk ?rrly7b3
        case yrly7b3 => (intro w hSw; (try dsimp only at hSw); go_simp; first | done | with_reducible rfl)
        simp only [Act.put, List.setIfInBounds_toArray, List.set_cons_zero, List.set_cons_succ]
        refine wpAnyH_take (i := 3) (oi := ⟨some 29, .load 29 (.tmp 28), 29, "ref.go:101", #[⟨2, .data⟩], none⟩) (v := ?vrly7b4) rfl (by kernel_rfl) (by kernel_rfl) (by kernel_rfl) (fun _ _ _ h => h) (Or.inl ⟨by rfl, ?yrly7b4⟩) hk ?rrly7b4
        case yrly7b4 => (intro w hSw; have hcw := hSw.1; clear hSw; go_simp; first | done | with_reducible rfl)
        simp only [Act.put, List.setIfInBounds_toArray, List.set_cons_zero, List.set_cons_succ]
        refine wpAnyH_take (i := 4) (oi := ⟨some 30, .move (.tmp 0), 69, "ref.go:101", #[], none⟩) (v := ?vrly7b5) rfl (by kernel_rfl) (by kernel_rfl) (by kernel_rfl) (fun _ _ _ h => h) (Or.inl ⟨by rfl, ?yrly7b5⟩) hk ?rrly7b5
        case yrly7b5 => (intro w hSw; (try dsimp only at hSw); go_simp; first | done | with_reducible rfl)
        simp only [Act.put, List.setIfInBounds_toArray, List.set_cons_zero, List.set_cons_succ]
        refine wpAnyH_take (i := 5) (oi := ⟨some 31, .nilCheck (.tmp 30), 0, "ref.go:101", #[⟨4, .data⟩], none⟩) (v := ?vrly7b6) rfl (by kernel_rfl) (by kernel_rfl) (by kernel_rfl) (fun _ _ _ h => h) (Or.inl ⟨by rfl, ?yrly7b6⟩) hk ?rrly7b6
        case yrly7b6 => (intro w hSw; (try dsimp only at hSw); go_simp; first | done | with_reducible rfl)
        simp only [Act.put, List.setIfInBounds_toArray, List.set_cons_zero, List.set_cons_succ]
        refine wpAnyH_take (i := 6) (oi := ⟨some 32, .fieldAddr 94 (.tmp 31) 2, 0, "ref.go:101", #[⟨5, .data⟩], none⟩) (v := ?vrly7b7) rfl (by kernel_rfl) (by kernel_rfl) (by kernel_rfl) (fun _ _ _ h => h) (Or.inl ⟨by rfl, ?yrly7b7⟩) hk ?rrly7b7
        case yrly7b7 => (intro w hSw; (try dsimp only at hSw); go_simp; first | done | with_reducible rfl)
        simp only [Act.put, List.setIfInBounds_toArray, List.set_cons_zero, List.set_cons_succ]
        refine wpAnyH_take (i := 7) (oi := ⟨some 33, .load 3 (.tmp 32), 3, "ref.go:101", #[⟨6, .data⟩], none⟩) (v := ?vrly7b8) rfl (by kernel_rfl) (by kernel_rfl) (by kernel_rfl) (fun _ _ _ h => h) (Or.inl ⟨by rfl, ?yrly7b8⟩) hk ?rrly7b8
        case yrly7b8 => (intro w hSw; have hcw := hSw.2; clear hSw; go_simp; first | done | with_reducible rfl)
        simp only [Act.put, List.setIfInBounds_toArray, List.set_cons_zero, List.set_cons_succ]
        refine wpAnyH_take (i := 8) (oi := ⟨some 34, .move (.tmp 7), 3, "ref.go:101", #[], none⟩) (v := ?vrly7b9) rfl (by kernel_rfl) (by kernel_rfl) (by kernel_rfl) (fun _ _ _ h => h) (Or.inl ⟨by rfl, ?yrly7b9⟩) hk ?rrly7b9
        case yrly7b9 => (intro w hSw; (try dsimp only at hSw); go_simp; first | done | with_reducible rfl)
        simp only [Act.put, List.setIfInBounds_toArray, List.set_cons_zero, List.set_cons_succ]
        refine wpAnyH_take (i := 9) (oi := ⟨some 35, .binOp .add 3 (.tmp 33) (.tmp 34) 3, 3, "ref.go:101", #[⟨7, .data⟩, ⟨8, .data⟩], none⟩) (v := ?vrly7b10) rfl (by kernel_rfl) (by kernel_rfl) (by kernel_rfl) (fun _ _ _ h => h) (Or.inl ⟨by rfl, ?yrly7b10⟩) hk ?rrly7b10
        case yrly7b10 => (intro w hSw; (try dsimp only at hSw); go_simp; first | done | with_reducible rfl)
        simp only [Act.put, List.setIfInBounds_toArray, List.set_cons_zero, List.set_cons_succ]
        refine wpAnyH_take (i := 10) (oi := ⟨some 36, .move (.tmp 1), 46, "ref.go:101", #[], none⟩) (v := ?vrly7b11) rfl (by kernel_rfl) (by kernel_rfl) (by kernel_rfl) (fun _ _ _ h => h) (Or.inl ⟨by rfl, ?yrly7b11⟩) hk ?rrly7b11
        case yrly7b11 => (intro w hSw; (try dsimp only at hSw); go_simp; first | done | with_reducible rfl)
        simp only [Act.put, List.setIfInBounds_toArray, List.set_cons_zero, List.set_cons_succ]
        refine wpAnyH_take (i := 11) (oi := ⟨some 37, .move (.tmp 7), 3, "ref.go:101", #[], none⟩) (v := ?vrly7b12) rfl (by kernel_rfl) (by kernel_rfl) (by kernel_rfl) (fun _ _ _ h => h) (Or.inl ⟨by rfl, ?yrly7b12⟩) hk ?rrly7b12
        case yrly7b12 => (intro w hSw; (try dsimp only at hSw); go_simp; first | done | with_reducible rfl)
        simp only [Act.put, List.setIfInBounds_toArray, List.set_cons_zero, List.set_cons_succ]
        refine wpAnyH_take (i := 12) (oi := ⟨some 38, .binOp .mul 3 (.const (Value.int IntKind.i64 64)) (.tmp 37) 3, 3, "ref.go:101", #[⟨11, .data⟩], none⟩) (v := ?vrly7b13) rfl (by kernel_rfl) (by kernel_rfl) (by kernel_rfl) (fun _ _ _ h => h) (Or.inl ⟨by rfl, ?yrly7b13⟩) hk ?rrly7b13
        case yrly7b13 => (intro w hSw; (try dsimp only at hSw); go_simp; first | done | with_reducible rfl)
        simp only [Act.put, List.setIfInBounds_toArray, List.set_cons_zero, List.set_cons_succ]
        refine wpAnyH_take (i := 13) (oi := ⟨some 39, .move (.tmp 8), 3, "ref.go:101", #[], none⟩) (v := ?vrly7b14) rfl (by kernel_rfl) (by kernel_rfl) (by kernel_rfl) (fun _ _ _ h => h) (Or.inl ⟨by rfl, ?yrly7b14⟩) hk ?rrly7b14
        case yrly7b14 => (intro w hSw; (try dsimp only at hSw); go_simp; first | done | with_reducible rfl)
        simp only [Act.put, List.setIfInBounds_toArray, List.set_cons_zero, List.set_cons_succ]
        refine wpAnyH_take (i := 14) (oi := ⟨some 40, .slice 46 (.tmp 36) (some (.tmp 38)) (some (.tmp 39)) none, 46, "ref.go:101", #[⟨10, .data⟩, ⟨12, .data⟩, ⟨13, .data⟩], none⟩) (v := ?vrly7b15) rfl (by kernel_rfl) (by kernel_rfl) (by kernel_rfl) (fun _ _ _ h => h) (Or.inl ⟨by rfl, ?yrly7b15⟩) hk ?rrly7b15
        case yrly7b15 => (intro w hSw; (try dsimp only at hSw); go_simp; first | done | with_reducible rfl)
        simp only [Act.put, List.setIfInBounds_toArray, List.set_cons_zero, List.set_cons_succ]
        refine wpAnyH_ready (rs := [15]) (by decide +kernel) (by simp) ?_
        refine AllReadyH.cons (o := ⟨some 41, .call { callee := .value (.func 68), args := #[.tmp 29, .tmp 35, .tmp 40], argTypes := #[29, 3, 46] }, 3, "ref.go:101", #[⟨3, .data⟩, ⟨9, .data⟩, ⟨14, .data⟩], none⟩) rfl (fun K hK => ?_) AllReadyH.nil
        go_simp
        refine (rwrite_any g own1 s1 (m + j) _ _ _ _ y _ HDk.out HOK.out (by omega) HBk.out.1 HBk.out.2).mono ?_
        rintro e1 w8 ⟨rfl, own3, hD3, hdid3⟩
        replace hk : w8.cell? ⟨gl, 0, none⟩ = some (.pointer (some ⟨g, 0, none⟩)) ∧ w8.cell? ⟨gl, 2, none⟩ = some (.int .i64 (next : Int)) := HCL.out w8 own3 (HDI.out.trans hdid3)
        have HD3 : Bx _ := ⟨hD3⟩
        have HDI3 : Bx _ := ⟨HDI.out.trans hdid3⟩
        clear hD3 hdid3
        refine hK.out _ _ hk (fun _ => ?_)
        clear hK K
        try simp only [Act.put, List.setIfInBounds_toArray, List.set_cons_zero, List.set_cons_succ]
        refine wpAnyH_take (i := 16) (oi := ⟨some 9, .assign (.tmp 41), 3, "ref.go:101", #[⟨15, .data⟩, ⟨15, .chain⟩, ⟨0, .phase⟩, ⟨1, .phase⟩, ⟨2, .phase⟩, ⟨3, .phase⟩, ⟨4, .phase⟩, ⟨5, .phase⟩, ⟨6, .phase⟩, ⟨7, .phase⟩, ⟨8, .phase⟩, ⟨9, .phase⟩, ⟨10, .phase⟩, ⟨11, .phase⟩, ⟨12, .phase⟩, ⟨13, .phase⟩, ⟨14, .phase⟩, ⟨15, .phase⟩], none⟩) (v := ?vrly7b16) rfl (by kernel_rfl) (by kernel_rfl) (by kernel_rfl) (fun _ _ _ h => h) (Or.inl ⟨by rfl, ?yrly7b16⟩) hk ?rrly7b16
        case yrly7b16 => (intro w hSw; (try dsimp only at hSw); go_simp; first | done | with_reducible rfl)
        simp only [Act.put, List.setIfInBounds_toArray, List.set_cons_zero, List.set_cons_succ]
        refine wpAnyH_done (by decide +kernel) ?_ _
        clear HDk HBk HDI hk
        have hx : (next : Int) + (j : Int) = ((next + j : Nat) : Int) := by omega
        rw [hx] at HD3 ⊢
        clear hw2 hw3 hx
        by_cases he : s1.wrE ((next + j : Nat) : Int) y = 0
        · have HW' : Bx _ := ⟨HGO.out he⟩
          have HOK' : Bx ((s1.wr ((next + j : Nat) : Int) y).Ok) := ⟨DS.wr_ok HOK.out _ HYB.out⟩
          rw [he]
          clear he HGO HER
          generalize s1.wr ((next + j : Nat) : Int) y = s2 at HW' HOK' HD3
          go_wp2
          go_roundw
          case rel => exact ⟨j + 1, s2, own3, by omega, by omega, by go_num, HW', HOK', HD3, HDI3⟩
          case measure => simp [intOf]; omega
        · have HA : Bx _ := ⟨HER.out he⟩
          have heb : (s1.wrE ((next + j : Nat) : Int) y != 0) = true := by simpa using he
          clear he HGO HER
          generalize s1.wrE ((next + j : Nat) : Int) y = E at HA heb ⊢
          go_wp2
          go_ret
          exact ⟨by rw [HA.out]; rfl, own3, by rw [HA.out]; exact HD3.out.le (by omega), HDI3.out⟩
    · have hjI : ¬ (j : Int) < (n : Int) := by omega
      have hjn2 : j = n := by omega
      subst hjn2
      have HW1 : Bx ((s1, (0 : Int)) = wrL s (next + 1) (P.drop 1)) := ⟨by
        rw [← HW.out, List.drop_of_length_le (by rw [HPL.out]; omega)]; rfl⟩
      have HP0 : Bx (P.getD 0 [] = f.take 64) := ⟨by rw [HPG.out 0 (by omega)]; rfl⟩
      obtain ⟨n, hnn⟩ : ∃ n, n = j := ⟨_, rfl⟩
      subst hnn
      obtain ⟨wl, hwl⟩ : ∃ wl, wl = wr := ⟨_, rfl⟩
      subst hwl
      clear HW
      by_cases h1 : 1 < n
      · have h1I : (1 : Int) < (n : Int) := by omega
        obtain ⟨c0, c2⟩ := HCL.out wl own1 HDI.out
        go_wp2_with fail
        refine (rsync_any g own1 s1 (m + n) _ HD1.out HOK.out (by omega)).mono ?_
        rintro e w5 ⟨rfl, own5, hD5, hk5⟩
        have HD5 : Bx _ := ⟨hD5⟩
        have HDI5 : Bx _ := ⟨HDI.out.trans hk5⟩
        clear hD5 hk5 c0 c2 HDI HD1
        by_cases hE : s1.syE = 0
        · have HAP0 : Bx (s.apW next P = apT s1.sy next (f.take 64)) := ⟨by rw [← HP0.out]; exact apW_more HW1.out (by rw [HPL.out]; exact h1) hE⟩
          have HOKs : Bx (s1.sy.Ok) := ⟨DS.sy_ok HOK.out⟩
          rw [hE]
          clear hE HW1 HOK
          generalize s1.sy = s2 at HAP0 HOKs HD5
          clear s1
          obtain ⟨s1, HOK, HAP, HD1⟩ : ∃ s1 : DS, Bx s1.Ok ∧ Bx (s.apW next P = apT s1 next (f.take 64)) ∧ Bx (RS w5 g own5 s1 (m + n)) := ⟨s2, HOKs, HAP0, HD5⟩
          obtain ⟨wl, hwl⟩ : ∃ wl, wl = w5 := ⟨_, rfl⟩
          have HDI : Bx (Did own w w5 own5) := HDI5
          rw [← hwl] at HD1 HDI
          clear HDI5 HD5 HAP0 HOKs
          subst hwl
          obtain ⟨own1, ho1⟩ : ∃ own1, own1 = own5 := ⟨_, rfl⟩
          subst ho1
          have hk : wl.drew.cell? ⟨gl, 0, none⟩ = some (.pointer (some ⟨g, 0, none⟩)) ∧ wl.drew.cell? ⟨gl, 2, none⟩ = some (.int .i64 (next : Int)) := ⟨(HCL.out wl own1 HDI.out).1, (HCL.out wl own1 HDI.out).2⟩
          have HDk : Bx (RS wl.drew g own1 s1 (m + n)) := ⟨HD1.out.drewN 1⟩
          have HBk : Bx (Bts wl.drew (some ⟨b, off, none⟩) len cap f ∧ (0 < len → ∀ p : Addr, some ⟨b, off, none⟩ = some p → ¬ own1 p.block)) := ⟨(HBT.out wl own1 HDI.out).1.drewN 1, (HBT.out wl own1 HDI.out).2⟩
          replace HDI : Bx (Did own w wl.drew own1) := ⟨HDI.out.trans (Did.same ((Kept.refl own1 wl).drewN 1))⟩
          have HYB : Bx (Byt (f.take 64)) := ⟨HBk.out.1.byt.take 64⟩
          clear HD1
          go_wp2_with fail
          refine wp_region_held_drew (S := fun W => W.cell? ⟨gl, 0, none⟩ = some (.pointer (some ⟨g, 0, none⟩)) ∧ W.cell? ⟨gl, 2, none⟩ = some (.int .i64 (next : Int))) (by kernel_rfl) hk (fun _ => ?_)
          generalize wl.drew = wd at hk HDk HBk HDI ⊢
          refine wpAnyH_take (i := 0) (oi := ⟨some 55, .move (.tmp 0), 69, "ref.go:110", #[], none⟩) (v := ?vrly141) rfl (by kernel_rfl) (by kernel_rfl) (by kernel_rfl) (fun _ _ _ h => h) (Or.inl ⟨by rfl, ?yrly141⟩) hk ?rrly141
          case yrly141 => (intro w hSw; (try dsimp only at hSw); go_simp; first | done | with_reducible rfl)
          simp only [Act.put, List.setIfInBounds_toArray, List.set_cons_zero, List.set_cons_succ]
          refine wpAnyH_take (i := 1) (oi := ⟨some 56, .nilCheck (.tmp 55), 0, "ref.go:110", #[⟨0, .data⟩], none⟩) (v := ?vrly142) rfl (by kernel_rfl) (by kernel_rfl) (by kernel_rfl) (fun _ _ _ h => h) (Or.inl ⟨by rfl, ?yrly142⟩) hk ?rrly142
          case yrly142 => (intro w hSw; (try dsimp only at hSw); go_simp; first | done | with_reducible rfl)
          simp only [Act.put, List.setIfInBounds_toArray, List.set_cons_zero, List.set_cons_succ]
          refine wpAnyH_take (i := 2) (oi := ⟨some 57, .fieldAddr 94 (.tmp 56) 0, 0, "ref.go:110", #[⟨1, .data⟩], none⟩) (v := ?vrly143) rfl (by kernel_rfl) (by kernel_rfl) (by kernel_rfl) (fun _ _ _ h => h) (Or.inl ⟨by rfl, ?yrly143⟩) hk ?rrly143
          case yrly143 => (intro w hSw; (try dsimp only at hSw); go_simp; first | done | with_reducible rfl)
          simp only [Act.put, List.setIfInBounds_toArray, List.set_cons_zero, List.set_cons_succ]
          refine wpAnyH_take (i := 3) (oi := ⟨some 58, .load 29 (.tmp 57), 29, "ref.go:110", #[⟨2, .data⟩], none⟩) (v := ?vrly144) rfl (by kernel_rfl) (by kernel_rfl) (by kernel_rfl) (fun _ _ _ h => h) (Or.inl ⟨by rfl, ?yrly144⟩) hk ?rrly144
          case yrly144 => (intro w hSw; have hcw := hSw.1; clear hSw; go_simp; first | done | with_reducible rfl)
          simp only [Act.put, List.setIfInBounds_toArray, List.set_cons_zero, List.set_cons_succ]
          refine wpAnyH_take (i := 4) (oi := ⟨some 59, .move (.tmp 0), 69, "ref.go:110", #[], none⟩) (v := ?vrly145) rfl (by kernel_rfl) (by kernel_rfl) (by kernel_rfl) (fun _ _ _ h => h) (Or.inl ⟨by rfl, ?yrly145⟩) hk ?rrly145
          case yrly145 => (intro w hSw; (try dsimp only at hSw); go_simp; first | done | with_reducible rfl)
          simp only [Act.put, List.setIfInBounds_toArray, List.set_cons_zero, List.set_cons_succ]
          refine wpAnyH_take (i := 5) (oi := ⟨some 60, .nilCheck (.tmp 59), 0, "ref.go:110", #[⟨4, .data⟩], none⟩) (v := ?vrly146) rfl (by kernel_rfl) (by kernel_rfl) (by kernel_rfl) (fun _ _ _ h => h) (Or.inl ⟨by rfl, ?yrly146⟩) hk ?rrly146
          case yrly146 => (intro w hSw; (try dsimp only at hSw); go_simp; first | done | with_reducible rfl)
          simp only [Act.put, List.setIfInBounds_toArray, List.set_cons_zero, List.set_cons_succ]
          refine wpAnyH_take (i := 6) (oi := ⟨some 61, .fieldAddr 94 (.tmp 60) 2, 0, "ref.go:110", #[⟨5, .data⟩], none⟩) (v := ?vrly147) rfl (by kernel_rfl) (by kernel_rfl) (by kernel_rfl) (fun _ _ _ h => h) (Or.inl ⟨by rfl, ?yrly147⟩) hk ?rrly147
          case yrly147 => (intro w hSw; (try dsimp only at hSw); go_simp; first | done | with_reducible rfl)
          simp only [Act.put, List.setIfInBounds_toArray, List.set_cons_zero, List.set_cons_succ]
          refine wpAnyH_take (i := 7) (oi := ⟨some 62, .load 3 (.tmp 61), 3, "ref.go:110", #[⟨6, .data⟩], none⟩) (v := ?vrly148) rfl (by kernel_rfl) (by kernel_rfl) (by kernel_rfl) (fun _ _ _ h => h) (Or.inl ⟨by rfl, ?yrly148⟩) hk ?rrly148
          case yrly148 => (intro w hSw; have hcw := hSw.2; clear hSw; go_simp; first | done | with_reducible rfl)
          simp only [Act.put, List.setIfInBounds_toArray, List.set_cons_zero, List.set_cons_succ]
          refine wpAnyH_take (i := 8) (oi := ⟨some 63, .move (.tmp 1), 46, "ref.go:110", #[], none⟩) (v := ?vrly149) rfl (by kernel_rfl) (by kernel_rfl) (by kernel_rfl) (fun _ _ _ h => h) (Or.inl ⟨by rfl, ?yrly149⟩) hk ?rrly149
          case yrly149 => (intro w hSw; (try dsimp only at hSw); go_simp; first | done | with_reducible rfl)
          simp only [Act.put, List.setIfInBounds_toArray, List.set_cons_zero, List.set_cons_succ]
          refine wpAnyH_ready (rs := [9]) (by decide +kernel) (by simp) ?_
          refine AllReadyH.cons (o := ⟨some 64, .call { callee := .value (.func 41), args := #[.tmp 63, .const (Value.int IntKind.i64 64)], argTypes := #[46, 3] }, 46, "ref.go:110", #[⟨8, .data⟩], none⟩) rfl (fun K hK => ?_) AllReadyH.nil
          go_simp
          refine (cut_any _ len cap 64 f _ HBk.out.1 (by decide)).mono ?_
          rintro e1 w8 ⟨⟨l0, rfl, hb0⟩, rfl⟩
          have HB0 := Bx.mk hb0
          clear hb0
          refine hK.out _ _ hk (fun _ => ?_)
          clear hK K
          try simp only [Act.put, List.setIfInBounds_toArray, List.set_cons_zero, List.set_cons_succ]
          refine wpAnyH_ready (rs := [10]) (by decide +kernel) (by simp) ?_
          refine AllReadyH.cons (o := ⟨some 65, .call { callee := .value (.func 68), args := #[.tmp 58, .tmp 62, .tmp 64], argTypes := #[29, 3, 46] }, 3, "ref.go:110", #[⟨3, .data⟩, ⟨7, .data⟩, ⟨9, .data⟩, ⟨9, .chain⟩], none⟩) rfl (fun K hK => ?_) AllReadyH.nil
          go_simp
          refine (rwrite_any g own1 s1 (m + n) _ _ l0 cap (f.take 64) _ HDk.out HOK.out (by omega) HB0.out (fun hp p e => HBk.out.2 (by omega) p e)).mono ?_
          rintro e1 w8 ⟨rfl, own3, hD3, hdid3⟩
          replace hk : w8.cell? ⟨gl, 0, none⟩ = some (.pointer (some ⟨g, 0, none⟩)) ∧ w8.cell? ⟨gl, 2, none⟩ = some (.int .i64 (next : Int)) := HCL.out w8 own3 (HDI.out.trans hdid3)
          have HD3 : Bx _ := ⟨hD3⟩
          have HDI3 : Bx _ := ⟨HDI.out.trans hdid3⟩
          clear hD3 hdid3 HB0
          refine hK.out _ _ hk (fun _ => ?_)
          clear hK K
          try simp only [Act.put, List.setIfInBounds_toArray, List.set_cons_zero, List.set_cons_succ]
          refine wpAnyH_take (i := 11) (oi := ⟨some 11, .assign (.tmp 65), 3, "ref.go:110", #[⟨10, .data⟩, ⟨10, .chain⟩, ⟨0, .phase⟩, ⟨1, .phase⟩, ⟨2, .phase⟩, ⟨3, .phase⟩, ⟨4, .phase⟩, ⟨5, .phase⟩, ⟨6, .phase⟩, ⟨7, .phase⟩, ⟨8, .phase⟩, ⟨9, .phase⟩, ⟨10, .phase⟩], none⟩) (v := ?vrly1410) rfl (by kernel_rfl) (by kernel_rfl) (by kernel_rfl) (fun _ _ _ h => h) (Or.inl ⟨by rfl, ?yrly1410⟩) hk ?rrly1410
          case yrly1410 => (intro w hSw; (try dsimp only at hSw); go_simp; first | done | with_reducible rfl)
          simp only [Act.put, List.setIfInBounds_toArray, List.set_cons_zero, List.set_cons_succ]
          refine wpAnyH_done (by decide +kernel) ?_ _
          clear HDk HBk HDI
          generalize f.take 64 = y at HD3 HAP HYB
          by_cases he : s1.wrE (next : Int) y = 0
          · have HA : Bx (s.apW next P = ((s1.wr (next : Int) y).sy, (s1.wr (next : Int) y).syE)) := ⟨by rw [HAP.out]; exact apT_ok he⟩
            have HOK3 : Bx ((s1.wr (next : Int) y).Ok) := ⟨DS.wr_ok HOK.out _ HYB.out⟩
            rw [he]
            clear he HAP
            generalize s1.wr (next : Int) y = s3 at HA HD3 HOK3
            obtain ⟨k1, k2⟩ := hk
            go_wp2_with fail
            refine (rsync_any g own3 s3 (m + n + 1) _ HD3.out HOK3.out (by omega)).mono ?_
            rintro e w9 ⟨rfl, own9, hD9, hk9⟩
            have HD9 : Bx _ := ⟨hD9⟩
            have HDI9 : Bx _ := ⟨HDI3.out.trans hk9⟩
            clear hD9 hk9 k1 k2
            go_wp2
            go_ret
            exact ⟨by rw [HA.out]; rfl, own9, by rw [HA.out]; exact HD9.out, HDI9.out⟩
          · have HA : Bx (s.apW next P = (s1.wr (next : Int) y, s1.wrE (next : Int) y)) := ⟨by rw [HAP.out]; exact apT_err he⟩
            have heb : (s1.wrE (next : Int) y != 0) = true := by simpa using he
            clear he HAP hk
            generalize s1.wrE (next : Int) y = E at HA heb ⊢
            go_wp2
            go_ret
            exact ⟨by rw [HA.out]; rfl, own3, by rw [HA.out]; exact HD3.out, HDI3.out⟩
        · have HA : Bx (s.apW next P = (s1.sy, s1.syE)) := ⟨apW_sy HW1.out (by rw [HPL.out]; exact h1) hE⟩
          have heb : (s1.syE != 0) = true := by simpa using hE
          clear hE HW1
          generalize s1.syE = E at HA heb ⊢
          go_wp2
          go_ret
          exact ⟨by rw [HA.out]; rfl, own5, by rw [HA.out]; exact HD5.out.le (by omega), HDI5.out⟩
      · have h1I : ¬ (1 : Int) < (n : Int) := by omega
        have HAP : Bx (s.apW next P = apT s1 next (f.take 64)) := ⟨by
          have hP1 : P.length = 1 := by rw [HPL.out]; omega
          have e1 : wrL s (next + 1) (P.drop 1) = (s, 0) := by rw [List.drop_of_length_le (by omega)]; rfl
          have e2 : s1 = s := by have := HW1.out; rw [e1] at this; exact (Prod.mk.inj this).1
          rw [← HP0.out, e2]; exact apW_one hP1⟩
        clear HW1
        have hk : wl.drew.cell? ⟨gl, 0, none⟩ = some (.pointer (some ⟨g, 0, none⟩)) ∧ wl.drew.cell? ⟨gl, 2, none⟩ = some (.int .i64 (next : Int)) := ⟨(HCL.out wl own1 HDI.out).1, (HCL.out wl own1 HDI.out).2⟩
        have HDk : Bx (RS wl.drew g own1 s1 (m + n)) := ⟨HD1.out.drewN 1⟩
        have HBk : Bx (Bts wl.drew (some ⟨b, off, none⟩) len cap f ∧ (0 < len → ∀ p : Addr, some ⟨b, off, none⟩ = some p → ¬ own1 p.block)) := ⟨(HBT.out wl own1 HDI.out).1.drewN 1, (HBT.out wl own1 HDI.out).2⟩
        replace HDI : Bx (Did own w wl.drew own1) := ⟨HDI.out.trans (Did.same ((Kept.refl own1 wl).drewN 1))⟩
        have HYB : Bx (Byt (f.take 64)) := ⟨HBk.out.1.byt.take 64⟩
        clear HD1
        go_wp2_with fail
        refine wp_region_held_drew (S := fun W => W.cell? ⟨gl, 0, none⟩ = some (.pointer (some ⟨g, 0, none⟩)) ∧ W.cell? ⟨gl, 2, none⟩ = some (.int .i64 (next : Int))) (by kernel_rfl) hk (fun _ => ?_)
        generalize wl.drew = wd at hk HDk HBk HDI ⊢
        refine wpAnyH_take (i := 0) (oi := ⟨some 55, .move (.tmp 0), 69, "ref.go:110", #[], none⟩) (v := ?vrly14b1) rfl (by kernel_rfl) (by kernel_rfl) (by kernel_rfl) (fun _ _ _ h => h) (Or.inl ⟨by rfl, ?yrly14b1⟩) hk ?rrly14b1
        case yrly14b1 => (intro w hSw; (try dsimp only at hSw); go_simp; first | done | with_reducible rfl)
        simp only [Act.put, List.setIfInBounds_toArray, List.set_cons_zero, List.set_cons_succ]
        refine wpAnyH_take (i := 1) (oi := ⟨some 56, .nilCheck (.tmp 55), 0, "ref.go:110", #[⟨0, .data⟩], none⟩) (v := ?vrly14b2) rfl (by kernel_rfl) (by kernel_rfl) (by kernel_rfl) (fun _ _ _ h => h) (Or.inl ⟨by rfl, ?yrly14b2⟩) hk ?rrly14b2
        case yrly14b2 => (intro w hSw; (try dsimp only at hSw); go_simp; first | done | with_reducible rfl)
        simp only [Act.put, List.setIfInBounds_toArray, List.set_cons_zero, List.set_cons_succ]
        refine wpAnyH_take (i := 2) (oi := ⟨some 57, .fieldAddr 94 (.tmp 56) 0, 0, "ref.go:110", #[⟨1, .data⟩], none⟩) (v := ?vrly14b3) rfl (by kernel_rfl) (by kernel_rfl) (by kernel_rfl) (fun _ _ _ h => h) (Or.inl ⟨by rfl, ?yrly14b3⟩) hk ?rrly14b3
        case yrly14b3 => (intro w hSw; (try dsimp only at hSw); go_simp; first | done | with_reducible rfl)
        simp only [Act.put, List.setIfInBounds_toArray, List.set_cons_zero, List.set_cons_succ]
        refine wpAnyH_take (i := 3) (oi := ⟨some 58, .load 29 (.tmp 57), 29, "ref.go:110", #[⟨2, .data⟩], none⟩) (v := ?vrly14b4) rfl (by kernel_rfl) (by kernel_rfl) (by kernel_rfl) (fun _ _ _ h => h) (Or.inl ⟨by rfl, ?yrly14b4⟩) hk ?rrly14b4
        case yrly14b4 => (intro w hSw; have hcw := hSw.1; clear hSw; go_simp; first | done | with_reducible rfl)
        simp only [Act.put, List.setIfInBounds_toArray, List.set_cons_zero, List.set_cons_succ]
        refine wpAnyH_take (i := 4) (oi := ⟨some 59, .move (.tmp 0), 69, "ref.go:110", #[], none⟩) (v := ?vrly14b5) rfl (by kernel_rfl) (by kernel_rfl) (by kernel_rfl) (fun _ _ _ h => h) (Or.inl ⟨by rfl, ?yrly14b5⟩) hk ?rrly14b5
        case yrly14b5 => (intro w hSw; (try dsimp only at hSw); go_simp; first | done | with_reducible rfl)
        simp only [Act.put, List.setIfInBounds_toArray, List.set_cons_zero, List.set_cons_succ]
        refine wpAnyH_take (i := 5) (oi := ⟨some 60, .nilCheck (.tmp 59), 0, "ref.go:110", #[⟨4, .data⟩], none⟩) (v := ?vrly14b6) rfl (by kernel_rfl) (by kernel_rfl) (by kernel_rfl) (fun _ _ _ h => h) (Or.inl ⟨by rfl, ?yrly14b6⟩) hk ?rrly14b6
        case yrly14b6 => (intro w hSw; (try dsimp only at hSw); go_simp; first | done | with_reducible rfl)
        simp only [Act.put, List.setIfInBounds_toArray, List.set_cons_zero, List.set_cons_succ]
        refine wpAnyH_take (i := 6) (oi := ⟨some 61, .fieldAddr 94 (.tmp 60) 2, 0, "ref.go:110", #[⟨5, .data⟩], none⟩) (v := ?vrly14b7) rfl (by kernel_rfl) (by kernel_rfl) (by kernel_rfl) (fun _ _ _ h => h) (Or.inl ⟨by rfl, ?yrly14b7⟩) hk ?rrly14b7
        case yrly14b7 => (intro w hSw; (try dsimp only at hSw); go_simp; first | done | with_reducible rfl)
        simp only [Act.put, List.setIfInBounds_toArray, List.set_cons_zero, List.set_cons_succ]
        refine wpAnyH_take (i := 7) (oi := ⟨some 62, .load 3 (.tmp 61), 3, "ref.go:110", #[⟨6, .data⟩], none⟩) (v := ?vrly14b8) rfl (by kernel_rfl) (by kernel_rfl) (by kernel_rfl) (fun _ _ _ h => h) (Or.inl ⟨by rfl, ?yrly14b8⟩) hk ?rrly14b8
        case yrly14b8 => (intro w hSw; have hcw := hSw.2; clear hSw; go_simp; first | done | with_reducible rfl)
        simp only [Act.put, List.setIfInBounds_toArray, List.set_cons_zero, List.set_cons_succ]
        refine wpAnyH_take (i := 8) (oi := ⟨some 63, .move (.tmp 1), 46, "ref.go:110", #[], none⟩) (v := ?vrly14b9) rfl (by kernel_rfl) (by kernel_rfl) (by kernel_rfl) (fun _ _ _ h => h) (Or.inl ⟨by rfl, ?yrly14b9⟩) hk ?rrly14b9
        case yrly14b9 => (intro w hSw; (try dsimp only at hSw); go_simp; first | done | with_reducible rfl)
        simp only [Act.put, List.setIfInBounds_toArray, List.set_cons_zero, List.set_cons_succ]
        refine wpAnyH_ready (rs := [9]) (by decide +kernel) (by simp) ?_
        refine AllReadyH.cons (o := ⟨some 64, .call { callee := .value (.func 41), args := #[.tmp 63, .const (Value.int IntKind.i64 64)], argTypes := #[46, 3] }, 46, "ref.go:110", #[⟨8, .data⟩], none⟩) rfl (fun K hK => ?_) AllReadyH.nil
        go_simp
        refine (cut_any _ len cap 64 f _ HBk.out.1 (by decide)).mono ?_
        rintro e1 w8 ⟨⟨l0, rfl, hb0⟩, rfl⟩
        have HB0 := Bx.mk hb0
        clear hb0
        refine hK.out _ _ hk (fun _ => ?_)
        clear hK K
        try simp only [Act.put, List.setIfInBounds_toArray, List.set_cons_zero, List.set_cons_succ]
        refine wpAnyH_ready (rs := [10]) (by decide +kernel) (by simp) ?_
        refine AllReadyH.cons (o := ⟨some 65, .call { callee := .value (.func 68), args := #[.tmp 58, .tmp 62, .tmp 64], argTypes := #[29, 3, 46] }, 3, "ref.go:110", #[⟨3, .data⟩, ⟨7, .data⟩, ⟨9, .data⟩, ⟨9, .chain⟩], none⟩) rfl (fun K hK => ?_) AllReadyH.nil
        go_simp
        refine (rwrite_any g own1 s1 (m + n) _ _ l0 cap (f.take 64) _ HDk.out HOK.out (by omega) HB0.out (fun hp p e => HBk.out.2 (by omega) p e)).mono ?_
        rintro e1 w8 ⟨rfl, own3, hD3, hdid3⟩
        replace hk : w8.cell? ⟨gl, 0, none⟩ = some (.pointer (some ⟨g, 0, none⟩)) ∧ w8.cell? ⟨gl, 2, none⟩ = some (.int .i64 (next : Int)) := HCL.out w8 own3 (HDI.out.trans hdid3)
        have HD3 : Bx _ := ⟨hD3⟩
        have HDI3 : Bx _ := ⟨HDI.out.trans hdid3⟩
        clear hD3 hdid3 HB0
        refine hK.out _ _ hk (fun _ => ?_)
        clear hK K
        try simp only [Act.put, List.setIfInBounds_toArray, List.set_cons_zero, List.set_cons_succ]
        refine wpAnyH_take (i := 11) (oi := ⟨some 11, .assign (.tmp 65), 3, "ref.go:110", #[⟨10, .data⟩, ⟨10, .chain⟩, ⟨0, .phase⟩, ⟨1, .phase⟩, ⟨2, .phase⟩, ⟨3, .phase⟩, ⟨4, .phase⟩, ⟨5, .phase⟩, ⟨6, .phase⟩, ⟨7, .phase⟩, ⟨8, .phase⟩, ⟨9, .phase⟩, ⟨10, .phase⟩], none⟩) (v := ?vrly14b10) rfl (by kernel_rfl) (by kernel_rfl) (by kernel_rfl) (fun _ _ _ h => h) (Or.inl ⟨by rfl, ?yrly14b10⟩) hk ?rrly14b10
        case yrly14b10 => (intro w hSw; (try dsimp only at hSw); go_simp; first | done | with_reducible rfl)
        simp only [Act.put, List.setIfInBounds_toArray, List.set_cons_zero, List.set_cons_succ]
        refine wpAnyH_done (by decide +kernel) ?_ _
        clear HDk HBk HDI
        generalize f.take 64 = y at HD3 HAP HYB
        by_cases he : s1.wrE (next : Int) y = 0
        · have HA : Bx (s.apW next P = ((s1.wr (next : Int) y).sy, (s1.wr (next : Int) y).syE)) := ⟨by rw [HAP.out]; exact apT_ok he⟩
          have HOK3 : Bx ((s1.wr (next : Int) y).Ok) := ⟨DS.wr_ok HOK.out _ HYB.out⟩
          rw [he]
          clear he HAP
          generalize s1.wr (next : Int) y = s3 at HA HD3 HOK3
          obtain ⟨k1, k2⟩ := hk
          go_wp2_with fail
          refine (rsync_any g own3 s3 (m + n + 1) _ HD3.out HOK3.out (by omega)).mono ?_
          rintro e w9 ⟨rfl, own9, hD9, hk9⟩
          have HD9 : Bx _ := ⟨hD9⟩
          have HDI9 : Bx _ := ⟨HDI3.out.trans hk9⟩
          clear hD9 hk9 k1 k2
          go_wp2
          go_ret
          exact ⟨by rw [HA.out]; rfl, own9, by rw [HA.out]; exact HD9.out, HDI9.out⟩
        · have HA : Bx (s.apW next P = (s1.wr (next : Int) y, s1.wrE (next : Int) y)) := ⟨by rw [HAP.out]; exact apT_err he⟩
          have heb : (s1.wrE (next : Int) y != 0) = true := by simpa using he
          clear he HAP hk
          generalize s1.wrE (next : Int) y = E at HA heb ⊢
          go_wp2
          go_ret
          exact ⟨by rw [HA.out]; rfl, own3, by rw [HA.out]; exact HD3.out, HDI3.out⟩
end Go.Proofs.YtjnjokbdoendkaaGreat
namespace Go.Proofs.YtjnjokbdoendkaaGreat
open Go.RowKit
set_option linter.unusedVariables false

/-- what Append leaves -/
def RPP (s : DS) (L : LS) (b : List Int) (m gl gd : Nat) (ownD ownL : Nat → Prop) (w w' : World) : Prop := ∃ ownD' ownL', RS w' gd ownD' (apS s L b) m ∧ Rg w' gl ownL' gd (apL s L b) ∧ Did2 ownD ownL w w' ownD' ownL'
set_option maxRecDepth 100000 in
theorem RPP.er {s : DS} {L : LS} {b : List Int} {m gl gd : Nat} {ownD ownL own5 : Nat → Prop} {w w4 w5 w6 : World} {vt : Value} (hgo : L.go s b = true) (h0 : (L.wr s b).2 ≠ 0) (hd : ∀ k, ownL k → ¬ ownD k) (hlt : ∀ k, ownL k → k < w.heap.size) (hb : Below w.heap.size w w4) (hdid : Did ownD w4 w5 own5)
    (hD : RS w5 gd own5 (L.wr s b).1 m) (hR : RgR w5 gl ownL gd L vt) (h6 : w6 = w5.setCell ⟨gl, 3, none⟩ (.bool true)) : RPP s L b m gl gd ownD ownL w w6 := by
  have hsz : w6.heap.size = w5.heap.size := by rw [h6]; simp [World.setCell]
  have hdj : ∀ k, ownL k → ¬ own5 k := fun k hk ho => by
    rcases hdid.new k ho with h1 | h1
    · exact hd k hk h1
    · have := hlt k hk; have := hb.size; omega
  have hk56 : Kept ownL w5 w6 := by rw [h6]; exact (Kept.refl _ _).setCell (.inl hR.og) 3 _
  refine ⟨own5, ownL, ?_, ?_, ?_, ?_, fun k hk => .inl hk, hdj⟩
  · rw [(ap_yes hgo).2]; exact hD.kept hk56 (fun k hk ho => hdj k ho hk)
  · rw [ap_er hgo h0]; exact ⟨vt, by rw [h6]; exact hR.setFailed⟩
  · have h1 : Kept (fun k => ownD k ∨ ownL k) w w4 := Kept.of_below hb
    have h2 := h1.trans hdid.kept (fun k hk => .inl (.inl hk))
    exact h2.trans hk56 (fun k hk => .inl (.inr hk))
  · intro k hk
    rcases hdid.new k hk with h1 | h1
    · exact .inl h1
    · exact .inr ⟨by have := hb.size; omega, by rw [hsz]; exact h1.2⟩
set_option maxRecDepth 100000 in
theorem RPP.ok {s : DS} {L : LS} {b : List Int} {m gl gd : Nat} {ownD ownL own5 own2 : Nat → Prop} {w w4 w5 w6 w7 : World} {vt : Value} (hgo : L.go s b = true) (h0 : (L.wr s b).2 = 0) (hd : ∀ k, ownL k → ¬ ownD k) (hlt : ∀ k, ownL k → k < w.heap.size) (hb : Below w.heap.size w w4) (hdid : Did ownD w4 w5 own5)
    (hD : RS w5 gd own5 (L.wr s b).1 m) (hk5 : Kept ownL w5 w6) (hn : ∀ k, own2 k → ownL k ∨ (w5.heap.size ≤ k ∧ k < w6.heap.size)) (hk6 : Kept own2 w6 w7) (hR : RgR w7 gl own2 gd ⟨L.T ++ [b], L.next + ns (20 + b.length), L.failed⟩ vt) : RPP s L b m gl gd ownD ownL w w7 := by
  have hdj : ∀ k, own2 k → ¬ own5 k := fun k hk ho => by
    rcases hn k hk with h2 | h2
    · rcases hdid.new k ho with h1 | h1
      · exact hd k h2 h1
      · have := hlt k h2; have := hb.size; omega
    · have := hD.lt k ho; omega
  have hs5 := hdid.kept.size
  have hs6 := hk5.size
  have hs7 := hk6.size
  have hk57 : Kept ownL w5 w7 := hk5.trans hk6 (fun k hk => by rcases hn k hk with h | h; exact .inl h; exact .inr h.1)
  refine ⟨own5, own2, ?_, ?_, ?_, ?_, ?_, hdj⟩
  · rw [(ap_yes hgo).2]
    have hlL : ∀ k, own5 k → ¬ ownL k := fun k hk ho => by
      rcases hdid.new k hk with h1 | h1
      · exact hd k ho h1
      · have := hlt k ho; have := hb.size; omega
    exact hD.kept hk57 hlL
  · rw [ap_ok hgo h0]; exact ⟨vt, hR⟩
  · have h1 : Kept (fun k => ownD k ∨ ownL k) w w4 := Kept.of_below hb
    have h2 := h1.trans hdid.kept (fun k hk => .inl (.inl hk))
    exact h2.trans hk57 (fun k hk => .inl (.inr hk))
  · intro k hk
    rcases hdid.new k hk with h1 | h1
    · exact .inl h1
    · exact .inr ⟨by have := hb.size; omega, by omega⟩
  · intro k hk
    rcases hn k hk with h1 | h1
    · exact .inl h1
    · exact .inr ⟨by have := hb.size; omega, by omega⟩
set_option maxRecDepth 100000 in
set_option maxHeartbeats 1000000 in
theorem rappend_big (gl gd : Nat) (ownD ownL : Nat → Prop) (s : DS) (m : Nat) (L : LS) (a : Option Addr) (len cap : Nat) (b : List Int) (w : World) (hD : RS w gd ownD s m) (hLg : Rg w gl ownL gd L) (hbt : Bts w a len cap b) (hfd : L.failed = false) (hbig : 16384 < len) :
    Calls Tryz.prog 47 #[.pointer (some ⟨gl, 0, none⟩), .slice a len cap] w fun e w' => e = .returned (.int .i64 5) ∧ Below w.heap.size w w' := by
  obtain ⟨vt, hR⟩ := hLg
  obtain ⟨av, cv, rfl, _⟩ := hR.tl.form
  have c1 := hR.c1
  have c3 := hR.c3
  rw [hfd] at c3
  have HR : Bx (RgR w gl ownL gd L (.slice av L.T.length cv)) := ⟨hR⟩
  have hTl : L.T.length ≤ 4096 := Nat.le_trans hR.tn hR.n2
  have hn2 := hR.n2
  have hbl := hbt.len_eq
  have HBT : Bx (Bts w a len cap b) := ⟨hbt⟩
  have HDK : Bx (RS w gd ownD s m) := ⟨hD⟩
  have hu1 : (L.T.length : Int) % 18446744073709551616 = (L.T.length : Int) := by omega
  have hu2 : ((L.T.length : Int) + 1) % 18446744073709551616 = (L.T.length : Int) + 1 := by omega
  clear hR hbt hD
  go_enter Tryz.func47, Tryz.ntmps47
  go_wp2_with fail
  refine (refput8_any ((L.T.length : Int) + 1) a len cap b _ (by omega) (by omega) HBT.out).mono ?_
  rintro e w3 ⟨v3, rfl, hown3, hb3⟩
  clear c1 c3 hu1 hu2
  rw [ptE_seq, hbl]
  rw [if_pos hbig]
  clear hown3
  go_wp2
  go_ret
  exact ⟨rfl, hb3⟩
set_option maxRecDepth 100000 in
set_option maxHeartbeats 1000000 in
theorem rappend_full (gl gd : Nat) (ownD ownL : Nat → Prop) (s : DS) (m : Nat) (L : LS) (a : Option Addr) (len cap : Nat) (b : List Int) (w : World) (hD : RS w gd ownD s m) (hLg : Rg w gl ownL gd L) (hbt : Bts w a len cap b) (hfd : L.failed = false) (hbig : ¬ 16384 < len) (hfull : s.F.length < L.next + ns (20 + len)) :
    Calls Tryz.prog 47 #[.pointer (some ⟨gl, 0, none⟩), .slice a len cap] w fun e w' => e = .returned (.int .i64 11) ∧ Below w.heap.size w w' := by
  obtain ⟨vt, hR⟩ := hLg
  obtain ⟨av, cv, rfl, _⟩ := hR.tl.form
  have c1 := hR.c1
  have c3 := hR.c3
  rw [hfd] at c3
  have HR : Bx (RgR w gl ownL gd L (.slice av L.T.length cv)) := ⟨hR⟩
  have hTl : L.T.length ≤ 4096 := Nat.le_trans hR.tn hR.n2
  have hn2 := hR.n2
  have hbl := hbt.len_eq
  have HBT : Bx (Bts w a len cap b) := ⟨hbt⟩
  have HDK : Bx (RS w gd ownD s m) := ⟨hD⟩
  have hu1 : (L.T.length : Int) % 18446744073709551616 = (L.T.length : Int) := by omega
  have hu2 : ((L.T.length : Int) + 1) % 18446744073709551616 = (L.T.length : Int) + 1 := by omega
  clear hR hbt hD
  go_enter Tryz.func47, Tryz.ntmps47
  go_wp2_with fail
  refine (refput8_any ((L.T.length : Int) + 1) a len cap b _ (by omega) (by omega) HBT.out).mono ?_
  rintro e w3 ⟨v3, rfl, hown3, hb3⟩
  clear c1 c3 hu1 hu2
  rw [ptE_seq, hbl]
  rw [if_neg hbig]
  have hpl : ptL ((L.T.length : Int) + 1) b = frmL ((L.T.length : Int) + 1) b := ptL_ok (by rw [ptE_seq, hbl, if_neg hbig])
  rw [hpl, frmL_len, hbl] at hown3
  obtain ⟨a3, c3, rfl, hm3⟩ := Bts.of_owns hown3 (frmL_byt _ _ HBT.out.byt)
  have HM3 : Bx _ := ⟨hm3⟩
  have HO3 : Bx (∀ p, a3 = some p → w.heap.size ≤ p.block) := ⟨fun p e => (own_ge hown3 p e).1⟩
  have HB3 : Bx (Below w.heap.size w w3) := ⟨hb3⟩
  have hR3 := HR.out.below hb3
  have k0 := hR3.c0
  have k2 := hR3.c2
  obtain ⟨X9, left9, power9, vl9, hR9, _, _⟩ := HDK.out.below hb3
  have k9 := hR9.c0
  obtain ⟨fl, HFL⟩ : ∃ fl, Bx (fl = 20 + len) := ⟨_, ⟨rfl⟩⟩
  have hfl : fl ≤ 20000 := by rw [HFL.out]; omega
  rw [← HFL.out] at HM3 hm3 ⊢
  have hnsb : ns fl ≤ 1000 := by unfold ns; omega
  have HNS : Bx (((fl : Int) + 63) / 64 = ((ns fl : Nat) : Int)) := ⟨by unfold ns; omega⟩
  have hw1 : IntKind.i64.wrap ((L.next : Int) + ((ns fl : Nat) : Int)) = (L.next : Int) + ((ns fl : Nat) : Int) := IntWalk.i64_in _ (by omega)
  clear hown3 hm3 hb3 hR3 hpl hR9
  rw [← HFL.out] at hfull
  have g1 : decide ((s.F.length : Int) < (L.next : Int) + ((ns fl : Nat) : Int)) = true := decide_eq_true (by omega)
  go_wp2_with fail
  rw [HNS.out]
  generalize hnf : ns fl = nf at hnsb hw1 g1 hfull HNS ⊢
  have HNF : Bx (ns fl = nf) := ⟨hnf⟩
  clear hnf
  go_quiet (fail)
  clear k0 k2 k9 hw1
  obtain ⟨w4, HW4⟩ : ∃ w4, Bx (w4 = w3.drewN nq) := ⟨_, ⟨rfl⟩⟩
  rw [← HW4.out]
  have HB4 : Bx (Below w.heap.size w w4) := ⟨by rw [HW4.out]; exact below_drewN HB3.out nq⟩
  replace HM3 : Bx (Bts w4 a3 fl c3 (frmL ((L.T.length : Int) + 1) b)) := ⟨by rw [HW4.out]; exact HM3.out.drewN nq⟩
  go_wp2
  go_ret
  exact ⟨rfl, HB4.out⟩
set_option maxRecDepth 100000 in
set_option maxHeartbeats 2000000 in
theorem rappend_go (gl gd : Nat) (ownD ownL : Nat → Prop) (s : DS) (m : Nat) (L : LS) (a : Option Addr) (len cap : Nat) (b : List Int) (w : World) (hD : RS w gd ownD s m) (hok : s.Ok) (hLg : Rg w gl ownL gd L) (hbt : Bts w a len cap b) (hfd : L.failed = false) (hbig : ¬ 16384 < len) (hfull : ¬ s.F.length < L.next + ns (20 + len))
    (hfar : 0 < len → ∀ p, a = some p → ¬ ownD p.block) (hdj : ∀ k, ownL k → ¬ ownD k) (hm : m + ns (20 + len) ≤ 990) :
    Calls Tryz.prog 47 #[.pointer (some ⟨gl, 0, none⟩), .slice a len cap] w fun e w' => e = .returned (.int .i64 (L.wr s b).2) ∧ RPP s L b (m + ns (20 + len) + 1) gl gd ownD ownL w w' := by
  have HGO : Bx (L.go s b = true) := ⟨LS.go_iff.2 ⟨by rw [hbt.len_eq]; omega, by rw [hbt.len_eq]; omega, hfd⟩⟩
  have HLLT : Bx (∀ k, ownL k → k < w.heap.size) := ⟨hLg.lt⟩
  have HDLT : Bx (∀ k, ownD k → k < w.heap.size) := ⟨hD.lt⟩
  have hn4 : s.F.length ≤ 4096 := hok.n2
  obtain ⟨vt, hR⟩ := hLg
  obtain ⟨av, cv, rfl, _⟩ := hR.tl.form
  have c1 := hR.c1
  have c3 := hR.c3
  rw [hfd] at c3
  have HR : Bx (RgR w gl ownL gd L (.slice av L.T.length cv)) := ⟨hR⟩
  have hTl : L.T.length ≤ 4096 := Nat.le_trans hR.tn hR.n2
  have hn2 := hR.n2
  have hbl := hbt.len_eq
  have HBT : Bx (Bts w a len cap b) := ⟨hbt⟩
  have HDK : Bx (RS w gd ownD s m) := ⟨hD⟩
  have hu1 : (L.T.length : Int) % 18446744073709551616 = (L.T.length : Int) := by omega
  have hu2 : ((L.T.length : Int) + 1) % 18446744073709551616 = (L.T.length : Int) + 1 := by omega
  clear hR hbt hD
  go_enter Tryz.func47, Tryz.ntmps47
  go_wp2_with fail
  refine (refput8_any ((L.T.length : Int) + 1) a len cap b _ (by omega) (by omega) HBT.out).mono ?_
  rintro e w3 ⟨v3, rfl, hown3, hb3⟩
  clear c1 c3 hu1 hu2
  rw [ptE_seq, hbl]
  rw [if_neg hbig]
  have hpl : ptL ((L.T.length : Int) + 1) b = frmL ((L.T.length : Int) + 1) b := ptL_ok (by rw [ptE_seq, hbl, if_neg hbig])
  rw [hpl, frmL_len, hbl] at hown3
  obtain ⟨a3, c3, rfl, hm3⟩ := Bts.of_owns hown3 (frmL_byt _ _ HBT.out.byt)
  have HM3 : Bx _ := ⟨hm3⟩
  have HO3 : Bx (∀ p, a3 = some p → w.heap.size ≤ p.block) := ⟨fun p e => (own_ge hown3 p e).1⟩
  have HB3 : Bx (Below w.heap.size w w3) := ⟨hb3⟩
  have hR3 := HR.out.below hb3
  have k0 := hR3.c0
  have k2 := hR3.c2
  obtain ⟨X9, left9, power9, vl9, hR9, _, _⟩ := HDK.out.below hb3
  have k9 := hR9.c0
  obtain ⟨fl, HFL⟩ : ∃ fl, Bx (fl = 20 + len) := ⟨_, ⟨rfl⟩⟩
  have hfl : fl ≤ 20000 := by rw [HFL.out]; omega
  rw [← HFL.out] at HM3 hm3 ⊢
  have hnsb : ns fl ≤ 1000 := by unfold ns; omega
  have HNS : Bx (((fl : Int) + 63) / 64 = ((ns fl : Nat) : Int)) := ⟨by unfold ns; omega⟩
  have hw1 : IntKind.i64.wrap ((L.next : Int) + ((ns fl : Nat) : Int)) = (L.next : Int) + ((ns fl : Nat) : Int) := IntWalk.i64_in _ (by omega)
  clear hown3 hm3 hb3 hR3 hpl hR9
  rw [← HFL.out] at hfull
  have g1 : decide ((s.F.length : Int) < (L.next : Int) + ((ns fl : Nat) : Int)) = false := decide_eq_false (by omega)
  go_wp2_with fail
  rw [HNS.out]
  generalize hnf : ns fl = nf at hnsb hw1 g1 hfull HNS ⊢
  have HNF : Bx (ns fl = nf) := ⟨hnf⟩
  clear hnf
  go_quiet (fail)
  clear k0 k2 k9 hw1
  obtain ⟨w4, HW4⟩ : ∃ w4, Bx (w4 = w3.drewN nq) := ⟨_, ⟨rfl⟩⟩
  rw [← HW4.out]
  have HB4 : Bx (Below w.heap.size w w4) := ⟨by rw [HW4.out]; exact below_drewN HB3.out nq⟩
  replace HM3 : Bx (Bts w4 a3 fl c3 (frmL ((L.T.length : Int) + 1) b)) := ⟨by rw [HW4.out]; exact HM3.out.drewN nq⟩
  have HRD : Bx (RgR w4 gl ownL gd L (.slice av L.T.length cv)) := ⟨HR.out.below HB4.out⟩
  have HD4 : Bx (RS w4 gd ownD s m) := ⟨HDK.out.below HB4.out⟩
  have HNGL : Bx (¬ ownD gl) := ⟨hdj gl HR.out.og⟩
  have HFAR3 : Bx (0 < fl → ∀ p, a3 = some p → ¬ ownD p.block) := ⟨fun _ p e ho => by have h1 := HO3.out p e; have h2 := HDLT.out _ ho; omega⟩
  have HWR : Bx (s.apW L.next (prt (frmL ((L.T.length : Int) + 1) b)) = L.wr s b) := ⟨rfl⟩
  have HB4t : Bx (Bts w4 a len cap b) := ⟨HBT.out.below HB4.out⟩
  have hmm : m + nf ≤ 990 := by rw [← HFL.out, HNF.out] at hm; exact hm
  have HMM : Bx (m + nf + 1 = m + ns (20 + len) + 1) := ⟨by rw [← HFL.out, HNF.out]⟩
  clear HR HDK HBT HB3 hm
  go_wp2_with fail
  refine (lays_any gl gd ownD s m L.next nf a3 fl c3 _ _ HD4.out hok HRD.out.c0 HRD.out.c2 HNGL.out HM3.out HFAR3.out (by rw [HFL.out]; omega) hfl HNF.out.symm hmm hn2).mono ?_
  rintro e w5 ⟨rfl, own5, hD5, hdid5⟩
  rw [HWR.out] at hD5 ⊢
  have hR5 : RgR w5 gl ownL gd L (.slice av L.T.length cv) := HRD.out.keep (fun k hk => hdid5.kept.block k (HRD.out.lt k hk) (hdj k hk)) hdid5.kept.size
  have HD5 : Bx _ := ⟨hD5⟩
  have HDI5 : Bx _ := ⟨hdid5⟩
  have HB5 : Bx (Bts w5 a len cap b) := ⟨HB4t.out.keep (fun hp p e => hdid5.kept.block _ (HB4t.out.lt hp e) (hfar hp p e)) hdid5.kept.size⟩
  clear HD4 HRD HB4t HNGL hD5 hdid5 HWR hfar HFAR3 HM3 HO3
  obtain ⟨mm, HMQ⟩ : ∃ mm, Bx (mm = m + nf + 1) := ⟨_, ⟨rfl⟩⟩
  rw [← HMQ.out] at HD5 HMM
  by_cases hE : (L.wr s b).2 = 0
  · have HE : Bx ((L.wr s b).2 = 0) := ⟨hE⟩
    rw [hE]
    clear hE
    have HFIN : Bx (∀ own2 w6 w7 vt, Kept ownL w5 w6 → (∀ k, own2 k → ownL k ∨ (w5.heap.size ≤ k ∧ k < w6.heap.size)) → Kept own2 w6 w7 → RgR w7 gl own2 gd ⟨L.T ++ [b], L.next + nf, L.failed⟩ vt → RPP s L b mm gl gd ownD ownL w w7) := ⟨fun own2 w6 w7 vt h1 h2 h3 h4 => RPP.ok HGO.out HE.out hdj HLLT.out HB4.out HDI5.out HD5.out h1 h2 h3 (by rw [← HNF.out, HFL.out, ← hbl] at h4; exact h4)⟩
    have HTO9 : Bx (TOk (L.T ++ [b])) := ⟨hR5.ok.snoc (by omega) HB5.out.byt⟩
    have hnf1 : 1 ≤ nf := by rw [← HNF.out, HFL.out]; exact ns_pos len
    have HTN9 : Bx ((L.T ++ [b]).length ≤ L.next + nf) := ⟨by rw [List.length_append]; have := hR5.tn; show _ + 1 ≤ _; omega⟩
    obtain ⟨i0, hi0, hz0, hz1, hz2⟩ := info_parts Tryz.info22
    clear HD5 HDI5 HGO HLLT HDLT hdj HB4
    go_wp2_with fail
    obtain ⟨wl, hwl⟩ : ∃ wl, wl = w5 := ⟨_, rfl⟩
    subst hwl
    obtain ⟨vt, HVT⟩ : ∃ vt, Bx (vt = Value.slice av L.T.length cv) := ⟨_, ⟨rfl⟩⟩
    have HL : Bx (RgR wl.drew gl ownL gd L vt) := ⟨by rw [HVT.out]; exact hR5.keep (fun _ _ => rfl) (Nat.le_refl _)⟩
    have HB : Bx (Bts wl.drew a len cap b) := ⟨HB5.out.drewN 1⟩
    have HBY : Bx (Byt b) := ⟨HB5.out.byt⟩
    have HK : Bx (Kept ownL wl wl.drew) := ⟨(Kept.refl _ _).drewN 1⟩
    have hk : True := trivial
    clear hR5 HB5
    go_cut [] from 54 to 64 (fun wx => ∃ own2 vt2, RgX wx gl own2 gd (L.T ++ [b]) L.next L.failed vt2 ∧ Kept ownL wl wx ∧ (∀ k, ownL k → own2 k) ∧ ∀ k, own2 k → ownL k ∨ (wl.heap.size ≤ k ∧ k < wx.heap.size))
    case first =>
      refine wp_region_held_drew (S := fun _ => True) (by kernel_rfl) hk (fun _ => ?_)
      generalize wl.drew = wk at HL HB HK ⊢
      refine wpAnyH_take (i := 0) (oi := ⟨some 54, .move (.tmp 0), 69, "ref.go:89", #[], none⟩) (v := ?vrap131) rfl (by kernel_rfl) (by kernel_rfl) (by kernel_rfl) (fun _ _ _ h => h) (Or.inl ⟨by rfl, ?yrap131⟩) hk ?rrap131
      case yrap131 => (intro w hSw; (try dsimp only at hSw); go_simp; first | done | with_reducible rfl)
      simp only [Act.put, List.setIfInBounds_toArray, List.set_cons_zero, List.set_cons_succ]
      refine wpAnyH_take (i := 1) (oi := ⟨some 55, .move (.tmp 0), 69, "ref.go:89", #[], none⟩) (v := ?vrap132) rfl (by kernel_rfl) (by kernel_rfl) (by kernel_rfl) (fun _ _ _ h => h) (Or.inl ⟨by rfl, ?yrap132⟩) hk ?rrap132
      case yrap132 => (intro w hSw; (try dsimp only at hSw); go_simp; first | done | with_reducible rfl)
      simp only [Act.put, List.setIfInBounds_toArray, List.set_cons_zero, List.set_cons_succ]
      refine wpAnyH_take (i := 2) (oi := ⟨some 56, .nilCheck (.tmp 55), 0, "ref.go:89", #[⟨1, .data⟩], none⟩) (v := ?vrap133) rfl (by kernel_rfl) (by kernel_rfl) (by kernel_rfl) (fun _ _ _ h => h) (Or.inl ⟨by rfl, ?yrap133⟩) hk ?rrap133
      case yrap133 => (intro w hSw; (try dsimp only at hSw); go_simp; first | done | with_reducible rfl)
      simp only [Act.put, List.setIfInBounds_toArray, List.set_cons_zero, List.set_cons_succ]
      refine wpAnyH_take (i := 3) (oi := ⟨some 57, .fieldAddr 94 (.tmp 56) 1, 0, "ref.go:89", #[⟨2, .data⟩], none⟩) (v := ?vrap134) rfl (by kernel_rfl) (by kernel_rfl) (by kernel_rfl) (fun _ _ _ h => h) (Or.inl ⟨by rfl, ?yrap134⟩) hk ?rrap134
      case yrap134 => (intro w hSw; (try dsimp only at hSw); go_simp; first | done | with_reducible rfl)
      simp only [Act.put, List.setIfInBounds_toArray, List.set_cons_zero, List.set_cons_succ]
      refine wpAnyH_take (i := 5) (oi := ⟨some 59, .move (.tmp 1), 46, "ref.go:89", #[], none⟩) (v := ?vrap135) rfl (by kernel_rfl) (by kernel_rfl) (by kernel_rfl) (fun _ _ _ h => h) (Or.inl ⟨by rfl, ?yrap135⟩) hk ?rrap135
      case yrap135 => (intro w hSw; (try dsimp only at hSw); go_simp; first | done | with_reducible rfl)
      simp only [Act.put, List.setIfInBounds_toArray, List.set_cons_zero, List.set_cons_succ]
      refine wpAnyH_ready (rs := [4, 6]) (by decide +kernel) (by simp) ?_
      refine (AllReadyH.cons (o := ⟨some 58, .load 57 (.tmp 57), 57, "ref.go:89", #[⟨3, .data⟩], none⟩) rfl (fun K hK => ?_) (AllReadyH.cons (o := ⟨some 60, .call { callee := .value (.func 40), args := #[.tmp 59], argTypes := #[46] }, 46, "ref.go:89", #[⟨5, .data⟩], none⟩) rfl (fun K hK => ?_) AllReadyH.nil))
      · rw [if_pos (by rfl)]
        have c1 := HL.out.c1
        go_simp
        clear c1
        refine hK.out _ _ hk (fun _ => ?_)
        clear hK K
        try simp only [Act.put, List.setIfInBounds_toArray, List.set_cons_zero, List.set_cons_succ]
        refine wpAnyH_ready (rs := [6]) (by decide +kernel) (by simp) ?_
        refine AllReadyH.cons (o := ⟨some 60, .call { callee := .value (.func 40), args := #[.tmp 59], argTypes := #[46] }, 46, "ref.go:89", #[⟨5, .data⟩], none⟩) rfl (fun K hK => ?_) AllReadyH.nil
        go_simp
        refine (copy_any a len cap b _ HB.out (by omega)).mono ?_
        rintro e1 w8 ⟨v3, rfl, hown3, hb3⟩
        obtain ⟨a3, c3, rfl, hm3⟩ := Bts.of_owns hown3 HBY.out
        have HFR : Bx (0 < len → ∀ p, a3 = some p → ¬ ownL p.block ∧ wl.heap.size ≤ p.block) := ⟨fun _ p e => by have h1 := own_ge hown3 p e; exact ⟨fun ho => by have := HL.out.lt _ ho; omega, Nat.le_trans HK.out.size h1.1⟩⟩
        replace HL : Bx (RgR w8 gl ownL gd L vt) := ⟨HL.out.keep (fun k hk => hb3.block k (HL.out.lt k hk)) hb3.size⟩
        replace HK : Bx (Kept ownL wl w8) := ⟨HK.out.below hb3⟩
        clear hown3 hb3 HB
        generalize w8 = wk at HL HK hm3 ⊢
        refine hK.out _ _ hk (fun _ => ?_)
        clear hK K
        try simp only [Act.put, List.setIfInBounds_toArray, List.set_cons_zero, List.set_cons_succ]
        refine wpAnyH_ready (rs := [7]) (by decide +kernel) (by simp) ?_
        refine AllReadyH.cons (o := ⟨some 61, .buildSlice 57 1 #[(0, .tmp 60)], 57, "ref.go:89", #[⟨6, .data⟩], none⟩) rfl (fun K hK => ?_) AllReadyH.nil
        go_simp
        have hbA : Below wk.heap.size wk (wk.alloc (.cells #[.slice a3 len c3] 46)) := (Below.refl _ _).alloc (Nat.le_refl _) _
        have hnew := World.news_of_block (heap_alloc_new wk (.cells #[.slice a3 len c3] 46))
        replace HL : Bx (RgR (wk.alloc (.cells #[.slice a3 len c3] 46)) gl ownL gd L vt) := ⟨HL.out.keep (fun k hk => hbA.block k (HL.out.lt k hk)) hbA.size⟩
        replace HK : Bx (Kept ownL wl (wk.alloc (.cells #[.slice a3 len c3] 46))) := ⟨HK.out.below hbA⟩
        replace hm3 := hm3.below hbA
        clear hbA
        generalize wk.heap.size = G at hnew ⊢
        generalize wk.alloc (.cells #[.slice a3 len c3] 46) = wk at HL HK hm3 hnew ⊢
        refine hK.out _ _ hk (fun _ => ?_)
        clear hK K
        try simp only [Act.put, List.setIfInBounds_toArray, List.set_cons_zero, List.set_cons_succ]
        refine wpAnyH_ready (rs := [8]) (by decide +kernel) (by simp) ?_
        refine AllReadyH.cons (o := ⟨some 62, .call { callee := .builtin Builtin.append, args := #[.tmp 58, .tmp 61], argTypes := #[57, 57] }, 57, "ref.go:89", #[⟨4, .data⟩, ⟨7, .data⟩, ⟨6, .chain⟩], none⟩) rfl (fun K hK => ?_) AllReadyH.nil
        obtain ⟨xs, hxo, HTA⟩ := HL.out.tl.open
        refine step_append_lies _ rfl (.tmp 58) (.tmp 61) 57 rfl 0 46 i0 (.slice none 0 0) 1 24 Tryz.underlying57 hi0 hz0 hz1 hz2 rfl (by decide) vt L.T.length xs rfl hxo ⟨G, 0, none⟩ 1 1 [.slice a3 len c3] rfl rfl hnew (by simp [Value.oneCell']) (by decide) (by unfold maxLen; omega) (by omega) (Nat.zero_le _) _ rfl ?_
        intro g4 cap4 w6 hown4 hgr4 hl4 hlt4
        obtain ⟨c1, f1, HX⟩ := RgR.more HL.out HTA.out hm3 HFR.out HK.out hown4 hgr4 hl4
        clear hown4 hgr4 hl4 hlt4 hxo HTA HL HK hm3 hnew
        refine hK.out _ _ hk (fun _ => ?_)
        clear hK K
        try simp only [Act.put, List.setIfInBounds_toArray, List.set_cons_zero, List.set_cons_succ]
        refine wpAnyH_take (i := 9) (oi := ⟨some 63, .nilCheck (.tmp 54), 0, "ref.go:89", #[⟨0, .data⟩, ⟨0, .phase⟩, ⟨1, .phase⟩, ⟨2, .phase⟩, ⟨3, .phase⟩, ⟨4, .phase⟩, ⟨5, .phase⟩, ⟨6, .phase⟩, ⟨7, .phase⟩, ⟨8, .phase⟩], none⟩) (v := ?vrap137) rfl (by kernel_rfl) (by kernel_rfl) (by kernel_rfl) (fun _ _ _ h => h) (Or.inl ⟨by rfl, ?yrap137⟩) hk ?rrap137
        case yrap137 => (intro w hSw; (try dsimp only at hSw); go_simp; first | done | with_reducible rfl)
        simp only [Act.put, List.setIfInBounds_toArray, List.set_cons_zero, List.set_cons_succ]
        refine wpAnyH_take (i := 10) (oi := ⟨some 64, .fieldAddr 94 (.tmp 63) 1, 0, "ref.go:89", #[⟨9, .data⟩, ⟨0, .phase⟩, ⟨1, .phase⟩, ⟨2, .phase⟩, ⟨3, .phase⟩, ⟨4, .phase⟩, ⟨5, .phase⟩, ⟨6, .phase⟩, ⟨7, .phase⟩, ⟨8, .phase⟩], none⟩) (v := ?vrap138) rfl (by kernel_rfl) (by kernel_rfl) (by kernel_rfl) (fun _ _ _ h => h) (Or.inl ⟨by rfl, ?yrap138⟩) hk ?rrap138
        case yrap138 => (intro w hSw; (try dsimp only at hSw); go_simp; first | done | with_reducible rfl)
        simp only [Act.put, List.setIfInBounds_toArray, List.set_cons_zero, List.set_cons_succ]
        refine wpAnyH_ready (rs := [11]) (by decide +kernel) (by simp) ?_
        refine AllReadyH.cons (o := ⟨none, .store 57 (.tmp 64) (.tmp 62), 0, "ref.go:89", #[⟨10, .data⟩, ⟨8, .data⟩, ⟨8, .chain⟩, ⟨0, .phase⟩, ⟨1, .phase⟩, ⟨2, .phase⟩, ⟨3, .phase⟩, ⟨4, .phase⟩, ⟨5, .phase⟩, ⟨6, .phase⟩, ⟨7, .phase⟩, ⟨8, .phase⟩], none⟩) rfl (fun K hK => ?_) AllReadyH.nil
        rw [if_pos (by rfl)]
        go_simp
        clear c1 f1
        refine hK.out _ _ hk (fun _ => ?_)
        clear hK K
        try simp only [Act.put, List.setIfInBounds_toArray, List.set_cons_zero, List.set_cons_succ]
        refine wpAnyH_done (by decide +kernel) ?_ _
        generalize w6.setCell ⟨gl, 1, none⟩ (.slice (some ⟨g4, 0, none⟩) (L.T.length + 1) cap4) = wq at HX ⊢
        go_wp2_with fail
        go_meet
        case rel => exact HX.out
      · go_simp
        refine (copy_any a len cap b _ HB.out (by omega)).mono ?_
        rintro e1 w8 ⟨v3, rfl, hown3, hb3⟩
        obtain ⟨a3, c3, rfl, hm3⟩ := Bts.of_owns hown3 HBY.out
        have HFR : Bx (0 < len → ∀ p, a3 = some p → ¬ ownL p.block ∧ wl.heap.size ≤ p.block) := ⟨fun _ p e => by have h1 := own_ge hown3 p e; exact ⟨fun ho => by have := HL.out.lt _ ho; omega, Nat.le_trans HK.out.size h1.1⟩⟩
        replace HL : Bx (RgR w8 gl ownL gd L vt) := ⟨HL.out.keep (fun k hk => hb3.block k (HL.out.lt k hk)) hb3.size⟩
        replace HK : Bx (Kept ownL wl w8) := ⟨HK.out.below hb3⟩
        clear hown3 hb3 HB
        generalize w8 = wk at HL HK hm3 ⊢
        refine hK.out _ _ hk (fun _ => ?_)
        clear hK K
        try simp only [Act.put, List.setIfInBounds_toArray, List.set_cons_zero, List.set_cons_succ]
        refine wpAnyH_ready (rs := [4, 7]) (by decide +kernel) (by simp) ?_
        refine (AllReadyH.cons (o := ⟨some 58, .load 57 (.tmp 57), 57, "ref.go:89", #[⟨3, .data⟩], none⟩) rfl (fun K hK => ?_) (AllReadyH.cons (o := ⟨some 61, .buildSlice 57 1 #[(0, .tmp 60)], 57, "ref.go:89", #[⟨6, .data⟩], none⟩) rfl (fun K hK => ?_) AllReadyH.nil))
        · rw [if_pos (by rfl)]
          have c1 := HL.out.c1
          go_simp
          clear c1
          refine hK.out _ _ hk (fun _ => ?_)
          clear hK K
          try simp only [Act.put, List.setIfInBounds_toArray, List.set_cons_zero, List.set_cons_succ]
          refine wpAnyH_ready (rs := [7]) (by decide +kernel) (by simp) ?_
          refine AllReadyH.cons (o := ⟨some 61, .buildSlice 57 1 #[(0, .tmp 60)], 57, "ref.go:89", #[⟨6, .data⟩], none⟩) rfl (fun K hK => ?_) AllReadyH.nil
          go_simp
          have hbA : Below wk.heap.size wk (wk.alloc (.cells #[.slice a3 len c3] 46)) := (Below.refl _ _).alloc (Nat.le_refl _) _
          have hnew := World.news_of_block (heap_alloc_new wk (.cells #[.slice a3 len c3] 46))
          replace HL : Bx (RgR (wk.alloc (.cells #[.slice a3 len c3] 46)) gl ownL gd L vt) := ⟨HL.out.keep (fun k hk => hbA.block k (HL.out.lt k hk)) hbA.size⟩
          replace HK : Bx (Kept ownL wl (wk.alloc (.cells #[.slice a3 len c3] 46))) := ⟨HK.out.below hbA⟩
          replace hm3 := hm3.below hbA
          clear hbA
          generalize wk.heap.size = G at hnew ⊢
          generalize wk.alloc (.cells #[.slice a3 len c3] 46) = wk at HL HK hm3 hnew ⊢
          refine hK.out _ _ hk (fun _ => ?_)
          clear hK K
          try simp only [Act.put, List.setIfInBounds_toArray, List.set_cons_zero, List.set_cons_succ]
          refine wpAnyH_ready (rs := [8]) (by decide +kernel) (by simp) ?_
          refine AllReadyH.cons (o := ⟨some 62, .call { callee := .builtin Builtin.append, args := #[.tmp 58, .tmp 61], argTypes := #[57, 57] }, 57, "ref.go:89", #[⟨4, .data⟩, ⟨7, .data⟩, ⟨6, .chain⟩], none⟩) rfl (fun K hK => ?_) AllReadyH.nil
          obtain ⟨xs, hxo, HTA⟩ := HL.out.tl.open
          refine step_append_lies _ rfl (.tmp 58) (.tmp 61) 57 rfl 0 46 i0 (.slice none 0 0) 1 24 Tryz.underlying57 hi0 hz0 hz1 hz2 rfl (by decide) vt L.T.length xs rfl hxo ⟨G, 0, none⟩ 1 1 [.slice a3 len c3] rfl rfl hnew (by simp [Value.oneCell']) (by decide) (by unfold maxLen; omega) (by omega) (Nat.zero_le _) _ rfl ?_
          intro g4 cap4 w6 hown4 hgr4 hl4 hlt4
          obtain ⟨c1, f1, HX⟩ := RgR.more HL.out HTA.out hm3 HFR.out HK.out hown4 hgr4 hl4
          clear hown4 hgr4 hl4 hlt4 hxo HTA HL HK hm3 hnew
          refine hK.out _ _ hk (fun _ => ?_)
          clear hK K
          try simp only [Act.put, List.setIfInBounds_toArray, List.set_cons_zero, List.set_cons_succ]
          refine wpAnyH_take (i := 9) (oi := ⟨some 63, .nilCheck (.tmp 54), 0, "ref.go:89", #[⟨0, .data⟩, ⟨0, .phase⟩, ⟨1, .phase⟩, ⟨2, .phase⟩, ⟨3, .phase⟩, ⟨4, .phase⟩, ⟨5, .phase⟩, ⟨6, .phase⟩, ⟨7, .phase⟩, ⟨8, .phase⟩], none⟩) (v := ?vrap1311) rfl (by kernel_rfl) (by kernel_rfl) (by kernel_rfl) (fun _ _ _ h => h) (Or.inl ⟨by rfl, ?yrap1311⟩) hk ?rrap1311
          case yrap1311 => (intro w hSw; (try dsimp only at hSw); go_simp; first | done | with_reducible rfl)
          simp only [Act.put, List.setIfInBounds_toArray, List.set_cons_zero, List.set_cons_succ]
          refine wpAnyH_take (i := 10) (oi := ⟨some 64, .fieldAddr 94 (.tmp 63) 1, 0, "ref.go:89", #[⟨9, .data⟩, ⟨0, .phase⟩, ⟨1, .phase⟩, ⟨2, .phase⟩, ⟨3, .phase⟩, ⟨4, .phase⟩, ⟨5, .phase⟩, ⟨6, .phase⟩, ⟨7, .phase⟩, ⟨8, .phase⟩], none⟩) (v := ?vrap1312) rfl (by kernel_rfl) (by kernel_rfl) (by kernel_rfl) (fun _ _ _ h => h) (Or.inl ⟨by rfl, ?yrap1312⟩) hk ?rrap1312
          case yrap1312 => (intro w hSw; (try dsimp only at hSw); go_simp; first | done | with_reducible rfl)
          simp only [Act.put, List.setIfInBounds_toArray, List.set_cons_zero, List.set_cons_succ]
          refine wpAnyH_ready (rs := [11]) (by decide +kernel) (by simp) ?_
          refine AllReadyH.cons (o := ⟨none, .store 57 (.tmp 64) (.tmp 62), 0, "ref.go:89", #[⟨10, .data⟩, ⟨8, .data⟩, ⟨8, .chain⟩, ⟨0, .phase⟩, ⟨1, .phase⟩, ⟨2, .phase⟩, ⟨3, .phase⟩, ⟨4, .phase⟩, ⟨5, .phase⟩, ⟨6, .phase⟩, ⟨7, .phase⟩, ⟨8, .phase⟩], none⟩) rfl (fun K hK => ?_) AllReadyH.nil
          rw [if_pos (by rfl)]
          go_simp
          clear c1 f1
          refine hK.out _ _ hk (fun _ => ?_)
          clear hK K
          try simp only [Act.put, List.setIfInBounds_toArray, List.set_cons_zero, List.set_cons_succ]
          refine wpAnyH_done (by decide +kernel) ?_ _
          generalize w6.setCell ⟨gl, 1, none⟩ (.slice (some ⟨g4, 0, none⟩) (L.T.length + 1) cap4) = wq at HX ⊢
          go_wp2_with fail
          go_meet
          case rel => exact HX.out
        · go_simp
          have hbA : Below wk.heap.size wk (wk.alloc (.cells #[.slice a3 len c3] 46)) := (Below.refl _ _).alloc (Nat.le_refl _) _
          have hnew := World.news_of_block (heap_alloc_new wk (.cells #[.slice a3 len c3] 46))
          replace HL : Bx (RgR (wk.alloc (.cells #[.slice a3 len c3] 46)) gl ownL gd L vt) := ⟨HL.out.keep (fun k hk => hbA.block k (HL.out.lt k hk)) hbA.size⟩
          replace HK : Bx (Kept ownL wl (wk.alloc (.cells #[.slice a3 len c3] 46))) := ⟨HK.out.below hbA⟩
          replace hm3 := hm3.below hbA
          clear hbA
          generalize wk.heap.size = G at hnew ⊢
          generalize wk.alloc (.cells #[.slice a3 len c3] 46) = wk at HL HK hm3 hnew ⊢
          refine hK.out _ _ hk (fun _ => ?_)
          clear hK K
          try simp only [Act.put, List.setIfInBounds_toArray, List.set_cons_zero, List.set_cons_succ]
          refine wpAnyH_ready (rs := [4]) (by decide +kernel) (by simp) ?_
          refine AllReadyH.cons (o := ⟨some 58, .load 57 (.tmp 57), 57, "ref.go:89", #[⟨3, .data⟩], none⟩) rfl (fun K hK => ?_) AllReadyH.nil
          rw [if_pos (by rfl)]
          have c1 := HL.out.c1
          go_simp
          clear c1
          refine hK.out _ _ hk (fun _ => ?_)
          clear hK K
          try simp only [Act.put, List.setIfInBounds_toArray, List.set_cons_zero, List.set_cons_succ]
          refine wpAnyH_ready (rs := [8]) (by decide +kernel) (by simp) ?_
          refine AllReadyH.cons (o := ⟨some 62, .call { callee := .builtin Builtin.append, args := #[.tmp 58, .tmp 61], argTypes := #[57, 57] }, 57, "ref.go:89", #[⟨4, .data⟩, ⟨7, .data⟩, ⟨6, .chain⟩], none⟩) rfl (fun K hK => ?_) AllReadyH.nil
          obtain ⟨xs, hxo, HTA⟩ := HL.out.tl.open
          refine step_append_lies _ rfl (.tmp 58) (.tmp 61) 57 rfl 0 46 i0 (.slice none 0 0) 1 24 Tryz.underlying57 hi0 hz0 hz1 hz2 rfl (by decide) vt L.T.length xs rfl hxo ⟨G, 0, none⟩ 1 1 [.slice a3 len c3] rfl rfl hnew (by simp [Value.oneCell']) (by decide) (by unfold maxLen; omega) (by omega) (Nat.zero_le _) _ rfl ?_
          intro g4 cap4 w6 hown4 hgr4 hl4 hlt4
          obtain ⟨c1, f1, HX⟩ := RgR.more HL.out HTA.out hm3 HFR.out HK.out hown4 hgr4 hl4
          clear hown4 hgr4 hl4 hlt4 hxo HTA HL HK hm3 hnew
          refine hK.out _ _ hk (fun _ => ?_)
          clear hK K
          try simp only [Act.put, List.setIfInBounds_toArray, List.set_cons_zero, List.set_cons_succ]
          refine wpAnyH_take (i := 9) (oi := ⟨some 63, .nilCheck (.tmp 54), 0, "ref.go:89", #[⟨0, .data⟩, ⟨0, .phase⟩, ⟨1, .phase⟩, ⟨2, .phase⟩, ⟨3, .phase⟩, ⟨4, .phase⟩, ⟨5, .phase⟩, ⟨6, .phase⟩, ⟨7, .phase⟩, ⟨8, .phase⟩], none⟩) (v := ?vrap1315) rfl (by kernel_rfl) (by kernel_rfl) (by kernel_rfl) (fun _ _ _ h => h) (Or.inl ⟨by rfl, ?yrap1315⟩) hk ?rrap1315
          case yrap1315 => (intro w hSw; (try dsimp only at hSw); go_simp; first | done | with_reducible rfl)
          simp only [Act.put, List.setIfInBounds_toArray, List.set_cons_zero, List.set_cons_succ]
          refine wpAnyH_take (i := 10) (oi := ⟨some 64, .fieldAddr 94 (.tmp 63) 1, 0, "ref.go:89", #[⟨9, .data⟩, ⟨0, .phase⟩, ⟨1, .phase⟩, ⟨2, .phase⟩, ⟨3, .phase⟩, ⟨4, .phase⟩, ⟨5, .phase⟩, ⟨6, .phase⟩, ⟨7, .phase⟩, ⟨8, .phase⟩], none⟩) (v := ?vrap1316) rfl (by kernel_rfl) (by kernel_rfl) (by kernel_rfl) (fun _ _ _ h => h) (Or.inl ⟨by rfl, ?yrap1316⟩) hk ?rrap1316
          case yrap1316 => (intro w hSw; (try dsimp only at hSw); go_simp; first | done | with_reducible rfl)
          simp only [Act.put, List.setIfInBounds_toArray, List.set_cons_zero, List.set_cons_succ]
          refine wpAnyH_ready (rs := [11]) (by decide +kernel) (by simp) ?_
          refine AllReadyH.cons (o := ⟨none, .store 57 (.tmp 64) (.tmp 62), 0, "ref.go:89", #[⟨10, .data⟩, ⟨8, .data⟩, ⟨8, .chain⟩, ⟨0, .phase⟩, ⟨1, .phase⟩, ⟨2, .phase⟩, ⟨3, .phase⟩, ⟨4, .phase⟩, ⟨5, .phase⟩, ⟨6, .phase⟩, ⟨7, .phase⟩, ⟨8, .phase⟩], none⟩) rfl (fun K hK => ?_) AllReadyH.nil
          rw [if_pos (by rfl)]
          go_simp
          clear c1 f1
          refine hK.out _ _ hk (fun _ => ?_)
          clear hK K
          try simp only [Act.put, List.setIfInBounds_toArray, List.set_cons_zero, List.set_cons_succ]
          refine wpAnyH_done (by decide +kernel) ?_ _
          generalize w6.setCell ⟨gl, 1, none⟩ (.slice (some ⟨g4, 0, none⟩) (L.T.length + 1) cap4) = wq at HX ⊢
          go_wp2_with fail
          go_meet
          case rel => exact HX.out
    case rest =>
      clear HL HB HK
      obtain ⟨own2, vt2, hX, hK2, hsub, hnew2⟩ := hcut
      have c2 := hX.c2
      have f2 := hX.fr 2
      have HL9 : Bx _ := ⟨hX.setNext (L.next + nf) HTO9.out HTN9.out (by omega)⟩
      have HK9 : Bx (Kept own2 wc (wc.setCell ⟨gl, 2, none⟩ (.int .i64 ((L.next + nf : Nat) : Int)))) := ⟨(Kept.refl _ _).setCell (.inl hX.og) 2 _⟩
      replace HFIN : Bx (∀ w7 vt, RgR w7 gl own2 gd ⟨L.T ++ [b], L.next + nf, L.failed⟩ vt → Kept own2 wc w7 → RPP s L b mm gl gd ownD ownL w w7) := ⟨fun w7 vt h1 h2 => HFIN.out own2 wc w7 vt hK2 hnew2 h2 h1⟩
      clear hX hK2 hsub hnew2
      go_wp2_with fail
      have hqq : (L.next : Int) + (nf : Int) = ((L.next + nf : Nat) : Int) := by omega
      rw [hqq]
      go_ret
      exact ⟨by rw [HE.out]; rfl, by rw [← HMM.out]; exact HFIN.out _ _ HL9.out HK9.out⟩
  · have heb : ((L.wr s b).2 != 0) = true := by simpa using hE
    have HE : Bx ((L.wr s b).2 ≠ 0) := ⟨hE⟩
    have cf := hR5.c3
    have ff := hR5.fr 3
    have HFIN : Bx (RPP s L b mm gl gd ownD ownL w (w5.setCell ⟨gl, 3, none⟩ (.bool true))) := ⟨RPP.er HGO.out hE hdj HLLT.out HB4.out HDI5.out HD5.out hR5 rfl⟩
    clear hE hR5 HB5 HD5 HDI5
    obtain ⟨E, HEE⟩ : ∃ E, Bx (E = (L.wr s b).2) := ⟨_, ⟨rfl⟩⟩
    rw [← HEE.out] at heb ⊢
    go_wp2
    go_ret
    exact ⟨by rw [HEE.out]; rfl, by rw [← HMM.out]; exact HFIN.out⟩
set_option maxRecDepth 100000 in
theorem rappend_any (gl gd : Nat) (ownD ownL : Nat → Prop) (s : DS) (m : Nat) (L : LS) (a : Option Addr) (len cap : Nat) (b : List Int) (w : World) (hD : RS w gd ownD s m) (hok : s.Ok) (hLg : Rg w gl ownL gd L) (hbt : Bts w a len cap b) (hfd : L.failed = false)
    (hfar : 0 < len → ∀ p, a = some p → ¬ ownD p.block) (hdj : ∀ k, ownL k → ¬ ownD k) (hm : m + ns (20 + len) ≤ 990) :
    Calls Tryz.prog 47 #[.pointer (some ⟨gl, 0, none⟩), .slice a len cap] w fun e w' => e = .returned (.int .i64 (apE s L b)) ∧ RPP s L b (if L.go s b = true then m + ns (20 + len) + 1 else m) gl gd ownD ownL w w' := by
  have hl := hbt.len_eq
  have hno : ∀ {w' : World}, Below w.heap.size w w' → L.go s b = false → RPP s L b (if L.go s b = true then m + ns (20 + len) + 1 else m) gl gd ownD ownL w w' := fun {w'} hb hg => ⟨ownD, ownL, by rw [(ap_no hg).1, hg]; exact hD.below hb, by rw [(ap_no hg).2]; exact hLg.below hb, Kept.of_below hb, fun k hk => .inl hk, fun k hk => .inl hk, hdj⟩
  by_cases hbig : 16384 < len
  · refine (rappend_big gl gd ownD ownL s m L a len cap b w hD hLg hbt hfd hbig).mono ?_
    rintro e w' ⟨rfl, hb⟩
    refine ⟨by unfold apE; rw [if_pos (by omega)], hno hb ?_⟩
    unfold LS.go; rw [decide_eq_false (by omega)]; rfl
  · by_cases hfull : s.F.length < L.next + ns (20 + len)
    · refine (rappend_full gl gd ownD ownL s m L a len cap b w hD hLg hbt hfd hbig hfull).mono ?_
      rintro e w' ⟨rfl, hb⟩
      refine ⟨by unfold apE; rw [if_neg (by omega), if_pos (by rw [hl]; exact hfull)], hno hb ?_⟩
      unfold LS.go; rw [decide_eq_false (p := L.next + ns (20 + b.length) ≤ s.F.length) (by rw [hl]; omega)]; simp
    · have hgo : L.go s b = true := LS.go_iff.2 ⟨by rw [hl]; omega, by rw [hl]; omega, hfd⟩
      refine (rappend_go gl gd ownD ownL s m L a len cap b w hD hok hLg hbt hfd hbig hfull hfar hdj hm).mono ?_
      rintro e w' ⟨rfl, hA⟩
      exact ⟨by unfold apE; rw [if_neg (by omega), if_neg (by rw [hl]; exact hfull), hfd]; rfl, by rw [if_pos hgo]; exact hA⟩
end Go.Proofs.YtjnjokbdoendkaaGreat
namespace Go.Proofs.YtjnjokbdoendkaaGreat
open Go.RowKit
set_option linter.unusedVariables false

set_option maxRecDepth 100000 in
theorem wr_now {s : DS} {x : Nat} {b : List Int} {i : Nat} (hi : i < s.F.length) (hne : i ≠ x) : (s.wr (x : Int) b).now.getD i [] = s.now.getD i [] := by
  unfold DS.wr
  split
  · rfl
  · split
    · split
      · rfl
      · show (app s.F (s.O ++ [((x : Int).toNat, pad64 b)])).getD i [] = (app s.F s.O).getD i []
        rw [app_getD _ _ _ hi, app_getD _ _ _ hi, lastO_append]
        show (if (x : Int).toNat = i then _ else _) = _
        rw [if_neg (by omega)]
    · rfl
/-- where the next frame goes, as it lies in memory -/
def nxt (w : World) (gl : Nat) : Nat := match w.cell? ⟨gl, 2, none⟩ with | some v => (intOf v).toNat | none => 0
set_option maxRecDepth 100000 in
theorem nxt_of {w : World} {gl p : Nat} (h : w.cell? ⟨gl, 2, none⟩ = some (.int .i64 (p : Int))) : nxt w gl = p := by unfold nxt; rw [h]; simp [intOf]
/-- what Open answers and leaves -/
def ROP (s : DS) (m g : Nat) (own : Nat → Prop) (w : World) (e : Ending) (w' : World) : Prop :=
  (rdF s.now = none → e = .returned (.tuple #[.pointer none, .int .i64 13]) ∧ Below w.heap.size w w') ∧
  ∀ T p, rdF s.now = some (T, p) → ∃ own', RS w' g own' (s.wipS p) (m + s.F.length) ∧ Did own w w' own' ∧
    ((s.wipE p = 0 ∧ ∃ gl ownL, e = .returned (.tuple #[.pointer (some ⟨gl, 0, none⟩), .int .i64 0]) ∧ Rg w' gl ownL g ⟨T, p, false⟩ ∧ (∀ k, ownL k → w.heap.size ≤ k) ∧ (∀ k, ownL k → ¬ own' k)) ∨
    (s.wipE p ≠ 0 ∧ e = .returned (.tuple #[.pointer none, .int .i64 (s.wipE p)])))
set_option maxRecDepth 100000 in
theorem ROP.no {s : DS} {m g : Nat} {own : Nat → Prop} {w w' : World} (h : none = rdF s.now) (hb : Below w.heap.size w w') : ROP s m g own w (.returned (.tuple #[.pointer none, .int .i64 13])) w' :=
  ⟨fun _ => ⟨rfl, hb⟩, fun T p h2 => by rw [← h] at h2; cases h2⟩
set_option maxRecDepth 100000 in
theorem ROP.err {s : DS} {m g p : Nat} {own own' : Nat → Prop} {w w' : World} {T : List (List Int)} {E : Int} (h : some (T, p) = rdF s.now) (hE : s.wipE p = E) (hne : E ≠ 0) (hR : RS w' g own' (s.wipS p) (m + s.F.length)) (hd : Did own w w' own') : ROP s m g own w (.returned (.tuple #[.pointer none, .int .i64 E])) w' :=
  ⟨fun h2 => (by rw [← h] at h2; cases h2), fun T2 p2 h2 => by
    rw [← h] at h2; cases h2
    exact ⟨own', hR, hd, .inr ⟨by rw [hE]; exact hne, by rw [hE]⟩⟩⟩
set_option maxRecDepth 100000 in
theorem ROP.ok {s : DS} {m g p gl : Nat} {own own' ownL : Nat → Prop} {w w' : World} {T : List (List Int)} (h : some (T, p) = rdF s.now) (hE : s.wipE p = 0) (hR : RS w' g own' (s.wipS p) (m + s.F.length)) (hd : Did own w w' own') (hL : Rg w' gl ownL g ⟨T, p, false⟩) (h1 : ∀ k, ownL k → w.heap.size ≤ k) (h2 : ∀ k, ownL k → ¬ own' k) : ROP s m g own w (.returned (.tuple #[.pointer (some ⟨gl, 0, none⟩), .int .i64 0])) w' :=
  ⟨fun h2 => (by rw [← h] at h2; cases h2), fun T2 p2 h3 => by
    rw [← h] at h3; cases h3
    exact ⟨own', hR, hd, .inl ⟨hE, gl, ownL, rfl, hL, h1, h2⟩⟩⟩
set_option maxRecDepth 100000 in
set_option maxHeartbeats 4000000 in
set_option maxRecDepth 100000 in
theorem ropen10_any (g : Nat) (own : Nat → Prop) (s : DS) (m : Nat) (w : World) (h : RS w g own s m) (hok : s.Ok) (hoff : s.off = false) (hm : m + s.F.length ≤ 990) :
    Calls Tryz.prog 38 #[.pointer (some ⟨g, 0, none⟩)] w (ROP s m g own w) := by
  obtain ⟨X, left, power, vl, hR, hS, hXm⟩ := h
  obtain rfl : power = true := by rw [hS.power, hoff]; rfl
  have c0 := hR.c0
  have c3 := hR.c3
  have hn1 := hok.n1
  have hn2 := hok.n2
  have HRDs : Bx (∀ i : Nat, i < s.F.length → lstX X i s0 = s.now.getD i []) := ⟨hS.read⟩
  have HSXs : Bx (Sxl s.now) := ⟨now_sx hok⟩
  have HNOWs : Bx (s.now.length = s.F.length) := ⟨now_len s⟩
  have HSIM := Bx.mk hS
  have HXM := Bx.mk hXm
  have HOK := Bx.mk hok
  have hXl : X.length ≤ 1000 := by omega
  have HRFs : Bx (Rf w g own s.F.length X left true vl) := ⟨hR⟩
  have hbA : Below w.heap.size w (w.alloc (.cells #[.pointer (some ⟨g, 0, none⟩), .slice none 0 0, .int .i64 0, .bool false] 94)) := (Below.refl _ _).alloc (Nat.le_refl _) _
  have hrow := heap_alloc_new w (.cells #[.pointer (some ⟨g, 0, none⟩), .slice none 0 0, .int .i64 0, .bool false] 94)
  have hsz : (w.alloc (.cells #[.pointer (some ⟨g, 0, none⟩), .slice none 0 0, .int .i64 0, .bool false] 94)).heap.size = w.heap.size + 1 := by simp
  obtain ⟨gl, hgl⟩ : ∃ gl, gl = w.heap.size := ⟨_, rfl⟩
  have HGL : Bx (gl = w.heap.size) := ⟨hgl⟩
  obtain ⟨F, HF⟩ : ∃ F, Bx (F = s.now) := ⟨_, ⟨rfl⟩⟩
  obtain ⟨n, HNL⟩ : ∃ n, Bx (n = s.F.length) := ⟨_, ⟨rfl⟩⟩
  have HRD : Bx (∀ i : Nat, i < n → lstX X i s0 = F.getD i []) := ⟨fun i hi => by rw [HF.out]; exact HRDs.out i (by rw [← HNL.out]; exact hi)⟩
  have HSX : Bx (Sxl F) := ⟨by rw [HF.out]; exact HSXs.out⟩
  have HNOW : Bx (F.length = n) := ⟨by rw [HF.out, HNL.out]; exact HNOWs.out⟩
  have HRF : Bx (Rf w g own n X left true vl) := ⟨by rw [HNL.out]; exact HRFs.out⟩
  rw [← HNL.out] at c0 hn1 hn2 hm
  clear hR hS hXm hok HRDs HSXs HNOWs HRFs
  go_enter Tryz.func38, Tryz.ntmps38
  go_wp2_with fail
  generalize w.alloc (.cells #[.pointer (some ⟨g, 0, none⟩), .slice none 0 0, .int .i64 0, .bool false] 94) = w1 at hbA hrow hsz ⊢
  rw [← hgl] at hrow hsz ⊢
  obtain ⟨N1, hN1⟩ : ∃ N1, N1 = w1.heap.size := ⟨_, rfl⟩
  have HN1 : Bx (N1 = w1.heap.size) := ⟨hN1⟩
  have HGN : Bx (N1 = gl + 1) := ⟨by rw [hN1, hsz]⟩
  have HROW := Bx.mk hrow
  have HBA := Bx.mk hbA
  have hst : w1.ownsRow N1 5 1 (.slice none 0 0) (64 * 0) (bv (flat (F.take 0))) ∧ Below N1 w1 w1 := ⟨World.ownsRow_nil _ _ _ _, Below.refl _ _⟩
  clear hgl hrow hsz hbA hN1 c0 c3
  go_loopw [5, 6] (fun v i wr => ∃ k : Nat, k ≤ n ∧ i = .int .i64 k ∧ wr.ownsRow N1 5 1 v (64 * k) (bv (flat (F.take k))) ∧ Below N1 w1 wr) (fun _ i _ => n - (intOf i).toNat)
  case atStart => exact ⟨0, Nat.zero_le _, rfl, hst⟩
  case round =>
    clear hst
    obtain ⟨k, hk, rfl, hO, hlow⟩ := hrel
    have hbw : Below w.heap.size w wr := HBA.out.trans (hlow.mono (by have := HGN.out; have := HGL.out; omega))
    have hrf := HRF.out.below hbw
    have c0 := hrf.c0
    by_cases hlt : k < n
    · have hkI : (k : Int) < (n : Int) := by omega
      have HMO : Bx (flat (F.take (k + 1)) = flat (F.take k) ++ F.getD k []) := ⟨by
        rw [take_one _ _ (by rw [HNOW.out]; exact hlt), flat_append]
        show _ ++ (_ ++ []) = _
        rw [List.append_nil]⟩
      go_wp2_with fail
      refine (rbytes_any g own n X left true vl k _ hrf hXl).mono ?_
      rintro e w3 ⟨a3, c3, rfl, hm3, hb3⟩
      rw [HRD.out k hlt] at hm3
      have hO3 := owns_below hO hb3
      have hs1 := hlow.size
      have hlow3 : Below N1 w1 w3 := hlow.trans (hb3.mono (by have := HN1.out; omega))
      have hs3 : N1 ≤ w3.heap.size := by have := hb3.size; have := HN1.out; omega
      have HLOW : Bx _ := ⟨hlow3⟩
      generalize F.getD k [] = y at hm3 HMO
      generalize flat (F.take k) = z at hO3 HMO
      clear hO hb3 hbw hlow hlow3 hrf c0 hs1
      go_wp2_with (at_builtin; refine wpList_append_bts rfl (.tmp 31) (.tmp 34) rfl N1 (64 * k) _ z rfl hO3 a3 64 c3 y rfl hm3 (by omega) hs3 ?_; intro v4 w4 hown4 hb4 _)
      rw [← HMO.out] at hown4
      have hlow4 := HLOW.out.trans hb4
      clear hb4 hO3 hm3 hs3 HLOW
      go_roundw
      case rel => exact ⟨k + 1, by omega, by go_num, hown4, hlow4⟩
      case measure => simp [intOf]; omega
    · have hkI : ¬ (k : Int) < (n : Int) := by omega
      obtain ⟨len5, HL5⟩ : ∃ x, Bx (x = 64 * n) := ⟨_, ⟨rfl⟩⟩
      have hO9 : wr.ownsRow N1 5 1 u5 len5 (bv (flat F)) := by
        rw [show k = n by omega, List.take_of_length_le (by rw [HNOW.out]; exact Nat.le_refl _), ← HL5.out] at hO
        exact hO
      obtain ⟨a5, c5, rfl, hm5⟩ := Bts.of_owns hO9 (flat_byt HSX.out)
      obtain ⟨wA, hwA⟩ : ∃ wA, wA = wr := ⟨_, rfl⟩
      subst hwA
      have HLA : Bx (Below w.heap.size w wA) := ⟨hbw⟩
      have HM5 := Bx.mk hm5
      have hm5c := hm5.le_cap
      have hm5m := hm5.cap_le
      unfold maxLen at hm5m
      have HFAR5 : Bx (∀ q, a5 = some q → q.block ≠ gl) := ⟨fun q e h => by have h1 := (own_ge hO9 q e).1; have := HGN.out; omega⟩
      have HBT5 : Bx (∀ W, Kept (fun k => k = gl) wA W → Bts W a5 len5 c5 (flat F)) := ⟨fun W hW => HM5.out.kept hW (fun _ q e => HFAR5.out q e)⟩
      have HRW : Bx (∀ W, Kept (fun k => k = gl) wA W → Rf W g own n X left true vl) := ⟨fun W hW => hrf.keep (fun k hk => hW.block k (hrf.lt k hk) (fun e => by have h1 := HRF.out.lt k hk; have h2 := HGL.out; omega)) hW.size⟩
      have hrowA : wA.heap[gl]? = some (.cells #[.pointer (some ⟨g, 0, none⟩), .slice none 0 0, .int .i64 0, .bool false] 94 (0, 0)) := (hlow.block gl (by have := HGN.out; omega)).trans HROW.out
      have HLG0 : Bx (RgR wA gl (fun k => k = gl) g ⟨[], 0, false⟩ (.slice none 0 0)) := ⟨⟨hrowA, TL.nil _ _, rfl, fun k hk => by have hk : k = gl := hk; rw [hk]; exact (Array.getElem?_eq_some_iff.1 hrowA).1, TOk.nil, Nat.le_refl _, Nat.zero_le _⟩⟩
      have hst2 : ∃ u, n < u + 0 ∧ Bx (rfr F u 0 [] = rdF F) := ⟨n + 1, by omega, ⟨by rw [← HNOW.out]; rfl⟩⟩
      have HRDF : Bx (rdF F = rdF s.now) := ⟨by rw [HF.out]⟩
      clear hO hO9 hlow hrowA hm5 hkI
      go_wp2_with fail
      clear c0 hrf hbw
      go_loopw [] (fun wr => ∃ (p : Nat) (T : List (List Int)) (u : Nat) (own1 : Nat → Prop) (vt : Value), p ≤ n ∧ T.length ≤ p ∧ Bx (TOk T) ∧ n < u + p ∧ Bx (rfr F u p T = rdF F) ∧ Bx (RgR wr gl own1 g ⟨T, p, false⟩ vt) ∧ Bx (Kept (fun k => k = gl) wA wr) ∧ Bx (∀ k, own1 k → k = gl ∨ wA.heap.size ≤ k)) (fun wr => n - nxt wr gl)
      case atStart =>
        obtain ⟨u, h1, h2⟩ := hst2
        exact ⟨0, [], u, _, _, Nat.zero_le _, Nat.le_refl _, ⟨TOk.nil⟩, h1, h2, HLG0, ⟨Kept.refl _ _⟩, ⟨fun k hk => .inl hk⟩⟩
      case round =>
        clear hst2 HLG0
        obtain ⟨p, T, u, own1, vt, hp, hTp, HTO, hu, HR, HLG, HK, HO1⟩ := hrel
        obtain ⟨av, cv, rfl, hcv⟩ := HLG.out.tl.form
        by_cases hlt : p < n
        · obtain ⟨Y, HYE'⟩ : ∃ Y, Bx (Y = F.getD p []) := ⟨_, ⟨rfl⟩⟩
          have HYE : Bx (F.getD p [] = Y) := ⟨HYE'.out.symm⟩
          by_cases hz : Y = s0
          · have HY : Bx (some (T, p) = rdF s.now) := ⟨by rw [← HRDF.out, ← HR.out]; exact (rfr_end (by rw [HNOW.out]; exact hu) (by rw [HNOW.out]; exact hp) (fun hh => hh.2 (by rw [HYE.out]; exact hz))).symm⟩
            -- the test: is there a frame (Y: its first sector)
            have c2 := HLG.out.c2
            have d0 := (HRW.out wr HK.out).c0
            have HC1 : Bx (∀ W, (W.cell? ⟨gl, 2, none⟩ = some (.int .i64 (p : Int)) ∧ W.cell? ⟨g, 0, none⟩ = some (.int .i64 (n : Int)) ∧ Below wr.heap.size wr W) → Calls Tryz.prog 65 #[.pointer (some ⟨g, 0, none⟩), .int .i64 (p : Int)] W fun e w' => ∃ a6 c6, e = .returned (.slice a6 64 c6) ∧ Bts w' a6 64 c6 Y ∧ (w'.cell? ⟨gl, 2, none⟩ = some (.int .i64 (p : Int)) ∧ w'.cell? ⟨g, 0, none⟩ = some (.int .i64 (n : Int)) ∧ Below wr.heap.size wr w')) := ⟨fun W hW => by
              refine (rbytes_any g own n X left true vl p _ (HRW.out W (HK.out.below hW.2.2)) (by omega)).mono ?_
              rintro e w' ⟨a6, c6, rfl, hm6, hb6⟩
              rw [HRD.out p hlt, HYE.out] at hm6
              have hb7 := bstep hW.2.2 hb6
              have hlg := HLG.out.keep (fun k hk => hb7.block k (HLG.out.lt k hk)) hb7.size
              exact ⟨a6, c6, rfl, hm6, hlg.c2, (HRW.out w' (HK.out.below hb7)).c0, hb7⟩⟩
            have HC2 : Bx (∀ W a6 c6, Bts W a6 64 c6 Y → Calls Tryz.prog 66 #[.slice a6 64 c6] W fun e w' => e = .returned (.bool true) ∧ W = w') := ⟨fun W a6 c6 hb => by
              have h1 := nought_any a6 c6 Y W hb
              rw [decide_eq_true hz] at h1
              exact h1⟩
            have hS0 : wr.drew.cell? ⟨gl, 2, none⟩ = some (.int .i64 (p : Int)) ∧ wr.drew.cell? ⟨g, 0, none⟩ = some (.int .i64 (n : Int)) ∧ Below wr.heap.size wr wr.drew := ⟨c2, d0, (Below.refl _ _).drew⟩
            have hlI : decide ((p : Int) < (n : Int)) = true := decide_eq_true (by omega)
            clear c2 d0
            go_wp2_with fail
            go_region_held3 (fun W => W.cell? ⟨gl, 2, none⟩ = some (.int .i64 (p : Int)) ∧ W.cell? ⟨g, 0, none⟩ = some (.int .i64 (n : Int)) ∧ Below wr.heap.size wr W) (first | (exact hS0) | (exact hb6) | (assumption)) (first
              | (go_at_call 65; refine (HC1.out _ (by assumption)).mono ?_; rintro e6 w6 ⟨a6, c6, rfl, hm6, hb6⟩)
              | (go_at_call 66; refine (HC2.out _ _ _ hm6).mono ?_; rintro e7 w7 ⟨rfl, rfl⟩))
            rename_i hHeld
            have HKB0 := Bx.mk (HK.out.below hHeld.2.2)
            have HLGB0 := Bx.mk (HLG.out.keep (fun k hk => hHeld.2.2.block k (HLG.out.lt k hk)) hHeld.2.2.size)
            clear hHeld hS0 HC1 HC2 hlI hz
            obtain ⟨wB, hwB⟩ : ∃ wB, wB = w6 := ⟨_, rfl⟩
            subst hwB
            obtain ⟨vt, HLG, HKB⟩ : ∃ vt, Bx (RgR wB gl own1 g ⟨T, p, false⟩ vt) ∧ Bx (Kept (fun k => k = gl) wA wB) := ⟨_, HLGB0, HKB0⟩
            clear hm6 hb6 HLGB0 HKB0 HR HTO
            -- noughts behind the log's end: wB the world, the log in it
            have HRB : Bx (RS wB g own s m) := ⟨⟨X, left, true, vl, by rw [← HNL.out]; exact HRW.out wB HKB.out, HSIM.out, HXM.out⟩⟩
            have HBW : Bx (Below w.heap.size w wB) := ⟨HLA.out.trans (HKB.out.low (B := w.heap.size) (fun k hk => by have hk : k = gl := hk; rw [hk, HGL.out]; exact Nat.le_refl _) HLA.out.size)⟩
            have HOW : Bx (∀ k, own k → k < w.heap.size) := ⟨fun k hk => by have := HRF.out.lt k hk; exact this⟩
            have HOL : Bx (∀ k, own1 k → w.heap.size ≤ k) := ⟨fun k hk => by
              rcases HO1.out k hk with h1 | h1
              · rw [h1, HGL.out]; exact Nat.le_refl _
              · have := HLA.out.size; omega⟩
            have HDJ : Bx (∀ W own3, Did own wB W own3 → (∀ k, own1 k → ¬ own3 k) ∧ RgR W gl own1 g ⟨T, p, false⟩ vt) := ⟨fun W own3 hd => by
              have hdj : ∀ k, own1 k → ¬ own k := fun k hk ho => by have := HOW.out k ho; have := HOL.out k hk; omega
              refine ⟨fun k hk ho => ?_, HLG.out.keep (fun k hk => hd.kept.block k (HLG.out.lt k hk) (hdj k hk)) hd.kept.size⟩
              rcases hd.new k ho with h1 | h1
              · exact hdj k hk h1
              · have := HLG.out.lt k hk; omega⟩
            have HR0 : Bx (wipL F p (n - p) s false = s.wipR p) := ⟨by rw [HNL.out, HF.out]; rfl⟩
            have HF0 : Bx (∀ i, i < n → s.now.getD i [] = F.getD i []) := ⟨fun i _ => by rw [HF.out]⟩
            have d0 := (HRW.out wB HKB.out).c0
            have hnI : IntKind.i64.wrap ((n : Int) - 1) = (n : Int) - 1 := IntWalk.i64_in _ (by omega)
            clear HLG HKB
            go_wp2_with fail
            clear d0 hnI
            go_loopw [11, 12] (fun v i wr => ∃ (j : Nat) (b : Bool) (s1 : DS) (own3 : Nat → Prop), j ≤ n - p ∧ v = .bool b ∧ i = .int .i64 ((p : Int) + (j : Int) - 1) ∧ Bx (wipL F p j s1 b = s.wipR p) ∧ Bx (s1.F.length = n) ∧ Bx s1.Ok ∧ Bx (∀ i, i < p + j → s1.now.getD i [] = F.getD i []) ∧ Bx (RS wr g own3 s1 (m + (n - p - j))) ∧ Bx (Did own wB wr own3)) (fun _ i _ => (intOf i + 1).toNat)
            case atStart => exact ⟨n - p, false, s, own, Nat.le_refl _, rfl, by congr 1; omega, HR0, ⟨HNL.out.symm⟩, HOK, ⟨fun i hi => HF0.out i (by omega)⟩, ⟨HRB.out.le (by omega)⟩, ⟨Did.same (Kept.refl _ _)⟩⟩
            case round =>
              obtain ⟨j, b, s1, own3, hj, rfl, rfl, HR, HF1, HOK1, HNW, HRS1, HDI⟩ := hrel
              clear HR0 HRB HF0
              have c2 := (HDJ.out wr own3 HDI.out).2.c2
              by_cases hj0 : j = 0
              · subst hj0
                have hge : decide ((p : Int) + ((0 : Nat) : Int) - 1 ≥ (p : Int)) = false := decide_eq_false (by omega)
                have HRR : Bx (s.wipR p = (s1, b, 0)) := ⟨HR.out.symm⟩
                have HRS2 : Bx (RS wr g own3 s1 (m + s.F.length)) := ⟨HRS1.out.le (by rw [← HNL.out]; omega)⟩
                have HDW : Bx (∀ W own4, Did own3 wr W own4 → Did own w W own4) := ⟨fun W own4 hd => (Did.same (Kept.of_below HBW.out)).trans (HDI.out.trans hd)⟩
                clear HR HRS1
                cases b with
                | false =>
                  have HE := wip_no HRR.out rfl rfl
                  have HE' : Bx _ := ⟨HE⟩
                  have hlg := HDJ.out wr own3 HDI.out
                  have HLGF : Bx _ := ⟨hlg⟩
                  clear HE HRR hlg
                  go_wp2_with fail
                  go_ret2
                  exact ROP.ok HY.out HE'.out.1 (by rw [HE'.out.2]; exact HRS2.out) (HDW.out _ _ (Did.same (Kept.refl _ _))) ⟨vt, HLGF.out.2⟩ HOL.out HLGF.out.1
                | true =>
                  have HE := wip_sy HRR.out rfl rfl
                  have HE' : Bx _ := ⟨HE⟩
                  clear HE HRR
                  go_wp2_with fail
                  refine (rsync_any g own3 s1 (m + s.F.length) _ HRS2.out HOK1.out (by rw [← HNL.out]; omega)).mono ?_
                  rintro e w3 ⟨rfl, own5, hR5, hd5⟩
                  rw [show s1.syE = s.wipE p from HE'.out.1.symm]
                  have HR5 : Bx (RS w3 g own5 (s.wipS p) (m + s.F.length)) := ⟨by rw [HE'.out.2]; exact hR5⟩
                  have HD5 : Bx (Did own w w3 own5) := ⟨HDW.out _ _ hd5⟩
                  have HLGF := Bx.mk (HDJ.out w3 own5 (HDI.out.trans hd5))
                  clear hR5 hd5 HE' c2
                  by_cases hE : s.wipE p = 0
                  · have HE := Bx.mk hE
                    rw [hE]
                    clear hE
                    go_wp2_with fail
                    go_ret2
                    exact ROP.ok HY.out HE.out HR5.out HD5.out ⟨vt, HLGF.out.2⟩ HOL.out HLGF.out.1
                  · have heb : (s.wipE p != 0) = true := by simpa using hE
                    have HE := Bx.mk hE
                    obtain ⟨E, HEE⟩ : ∃ E, Bx (s.wipE p = E) := ⟨_, ⟨rfl⟩⟩
                    rw [HEE.out] at heb ⊢
                    clear hE
                    go_wp2_with fail
                    go_ret2
                    exact ROP.err HY.out HEE.out (by rw [← HEE.out]; exact HE.out) HR5.out HD5.out
              · skip
                obtain ⟨j, rfl⟩ : ∃ i, j = i + 1 := ⟨j - 1, by omega⟩
                have hat : (p : Int) + ((j + 1 : Nat) : Int) - 1 = ((p + j : Nat) : Int) := by omega
                rw [hat]
                clear hat hj0
                have hge : decide (p ≤ p + j) = true := decide_eq_true (by omega)
                obtain ⟨x, hx⟩ : ∃ x, x = p + j := ⟨_, rfl⟩
                rw [← hx] at hge ⊢
                have hxn : x < n := by omega
                have hdec : IntKind.i64.wrap ((x : Int) - 1) = (x : Int) - 1 := IntWalk.i64_in _ (by omega)
                have HX : Bx (x = p + j) := ⟨hx⟩
                clear hx
                obtain ⟨X1, left1, power1, vl1, hR1, hS1, hX1⟩ := HRS1.out
                have HRF1 := Bx.mk hR1
                have HRD1 : Bx (lstX X1 (x : Int) s0 = F.getD x []) := ⟨by rw [hS1.read x (by rw [HF1.out]; exact hxn)]; exact HNW.out x (by have := HX.out; omega)⟩
                clear hR1 hS1
                go_wp2_with fail
                refine (rbytes_any g own3 _ X1 left1 power1 vl1 x _ HRF1.out (by omega)).mono ?_
                rintro e w5 ⟨a5', c5', rfl, hm5, hb5⟩
                rw [HRD1.out] at hm5
                have HDI5 : Bx (Did own wB w5 own3) := ⟨HDI.out.trans (Did.same (Kept.of_below hb5))⟩
                have HRS5 : Bx (RS w5 g own3 s1 (m + (n - p - (j + 1)))) := ⟨HRS1.out.below hb5⟩
                have c2' := (HDJ.out w5 own3 HDI5.out).2.c2
                clear hb5 HRF1 HRD1 c2
                go_wp2_with fail
                refine (nought_any a5' c5' (F.getD x []) _ hm5).mono ?_
                rintro e w' ⟨rfl, rfl⟩
                clear hm5
                by_cases hz : F.getD x [] = s0
                · rw [decide_eq_true hz]
                  have HR' : Bx (wipL F p j s1 b = s.wipR p) := ⟨by rw [← HR.out]; exact (wipL_z (by rw [← HX.out]; exact hz)).symm⟩
                  clear hz HR
                  go_wp2_with fail
                  go_roundw
                  case rel => exact ⟨j, b, s1, own3, by omega, rfl, by have := HX.out; congr 1; omega, HR', HF1, HOK1, ⟨fun i hi => HNW.out i (by omega)⟩, ⟨HRS5.out.le (by omega)⟩, HDI5⟩
                  case measure => simp [intOf]
                · rw [decide_eq_false hz]
                  go_wp2_with fail
                  refine (rwrite_any g own3 s1 (m + (n - p - (j + 1))) x none 0 0 [] _ HRS5.out HOK1.out (by omega) (bts_nil _) (fun hp => absurd hp (Nat.lt_irrefl _))).mono ?_
                  rintro e w3 ⟨rfl, own4, hR4, hdid4⟩
                  have HR4 : Bx (RS w3 g own4 (s1.wr (x : Int) []) (m + (n - p - j))) := ⟨hR4.le (by omega)⟩
                  have HDI4 : Bx _ := ⟨HDI5.out.trans hdid4⟩
                  clear hR4 hdid4 c2'
                  by_cases he : s1.wrE (x : Int) [] = 0
                  · have HR' : Bx (wipL F p j (s1.wr (x : Int) []) true = s.wipR p) := ⟨by rw [← HR.out, HX.out]; exact (wipL_w (by rw [← HX.out]; exact hz) (by rw [← HX.out]; exact he)).symm⟩
                    have HF' : Bx ((s1.wr (x : Int) []).F.length = n) := ⟨by rw [wr_same]; exact HF1.out⟩
                    have HOK' : Bx ((s1.wr (x : Int) []).Ok) := ⟨DS.wr_ok HOK1.out _ Byt.nil⟩
                    have HNW' : Bx (∀ i, i < p + j → (s1.wr (x : Int) []).now.getD i [] = F.getD i []) := ⟨fun i hi => by
                      have h1 := HX.out
                      rw [wr_now (by rw [HF1.out]; omega) (by omega)]; exact HNW.out i (by omega)⟩
                    rw [he]
                    clear hz HR he
                    generalize s1.wr (x : Int) [] = s2 at HR4 HR' HF' HOK' HNW'
                    go_wp2_with fail
                    go_roundw
                    case rel => exact ⟨j, true, s2, own4, by omega, rfl, by have := HX.out; congr 1; omega, HR', HF', HOK', HNW', HR4, HDI4⟩
                    case measure => simp [intOf]
                  · have HRR : s.wipR p = (s1.wr (x : Int) [], b, s1.wrE (x : Int) []) := by rw [← HR.out, HX.out]; exact wipL_e (by rw [← HX.out]; exact hz) (by rw [← HX.out]; exact he)
                    have HE := wip_err HRR he
                    have HE' : Bx _ := ⟨HE⟩
                    have HNE := Bx.mk he
                    have HDF : Bx (Did own w w3 own4) := ⟨(Did.same (Kept.of_below HBW.out)).trans HDI4.out⟩
                    have HRSF : Bx (RS w3 g own4 (s.wipS p) (m + s.F.length)) := ⟨by rw [HE.2]; exact HR4.out.le (by rw [← HNL.out]; omega)⟩
                    have heb : (s1.wrE (x : Int) [] != 0) = true := by simpa using he
                    clear hz HR he HE HRR HR4
                    generalize s1.wrE (x : Int) [] = E at heb HE' HNE ⊢
                    go_wp2_with fail
                    go_ret2
                    exact ROP.err HY.out HE'.out.1 HNE.out HRSF.out HDF.out
          · have HZ : Bx (F.getD p [] ≠ s0) := ⟨by rw [HYE.out]; exact hz⟩
            -- the test: is there a frame (Y: its first sector)
            have c2 := HLG.out.c2
            have d0 := (HRW.out wr HK.out).c0
            have HC1 : Bx (∀ W, (W.cell? ⟨gl, 2, none⟩ = some (.int .i64 (p : Int)) ∧ W.cell? ⟨g, 0, none⟩ = some (.int .i64 (n : Int)) ∧ Below wr.heap.size wr W) → Calls Tryz.prog 65 #[.pointer (some ⟨g, 0, none⟩), .int .i64 (p : Int)] W fun e w' => ∃ a6 c6, e = .returned (.slice a6 64 c6) ∧ Bts w' a6 64 c6 Y ∧ (w'.cell? ⟨gl, 2, none⟩ = some (.int .i64 (p : Int)) ∧ w'.cell? ⟨g, 0, none⟩ = some (.int .i64 (n : Int)) ∧ Below wr.heap.size wr w')) := ⟨fun W hW => by
              refine (rbytes_any g own n X left true vl p _ (HRW.out W (HK.out.below hW.2.2)) (by omega)).mono ?_
              rintro e w' ⟨a6, c6, rfl, hm6, hb6⟩
              rw [HRD.out p hlt, HYE.out] at hm6
              have hb7 := bstep hW.2.2 hb6
              have hlg := HLG.out.keep (fun k hk => hb7.block k (HLG.out.lt k hk)) hb7.size
              exact ⟨a6, c6, rfl, hm6, hlg.c2, (HRW.out w' (HK.out.below hb7)).c0, hb7⟩⟩
            have HC2 : Bx (∀ W a6 c6, Bts W a6 64 c6 Y → Calls Tryz.prog 66 #[.slice a6 64 c6] W fun e w' => e = .returned (.bool false) ∧ W = w') := ⟨fun W a6 c6 hb => by
              have h1 := nought_any a6 c6 Y W hb
              rw [decide_eq_false hz] at h1
              exact h1⟩
            have hS0 : wr.drew.cell? ⟨gl, 2, none⟩ = some (.int .i64 (p : Int)) ∧ wr.drew.cell? ⟨g, 0, none⟩ = some (.int .i64 (n : Int)) ∧ Below wr.heap.size wr wr.drew := ⟨c2, d0, (Below.refl _ _).drew⟩
            have hlI : decide ((p : Int) < (n : Int)) = true := decide_eq_true (by omega)
            clear c2 d0
            go_wp2_with fail
            go_region_held3 (fun W => W.cell? ⟨gl, 2, none⟩ = some (.int .i64 (p : Int)) ∧ W.cell? ⟨g, 0, none⟩ = some (.int .i64 (n : Int)) ∧ Below wr.heap.size wr W) (first | (exact hS0) | (exact hb6) | (assumption)) (first
              | (go_at_call 65; refine (HC1.out _ (by assumption)).mono ?_; rintro e6 w6 ⟨a6, c6, rfl, hm6, hb6⟩)
              | (go_at_call 66; refine (HC2.out _ _ _ hm6).mono ?_; rintro e7 w7 ⟨rfl, rfl⟩))
            rename_i hHeld
            have HKB := Bx.mk (HK.out.below hHeld.2.2)
            have HLGB := Bx.mk (HLG.out.keep (fun k hk => hHeld.2.2.block k (HLG.out.lt k hk)) hHeld.2.2.size)
            have HBR := Bx.mk hHeld.2.2
            have c2 := hHeld.1
            have hbt := HBT5.out w6 HKB.out
            have hl5 : 64 * n = len5 := HL5.out.symm
            have HFD : Bx ((flat F).drop (64 * p) = flat (F.drop p)) := ⟨flat_drop HSX.out p⟩
            have HXB : Bx (Byt (flat (F.drop p))) := ⟨flat_byt (HSX.out.drop p)⟩
            have HXL : Bx ((flat (F.drop p)).length = len5 - 64 * p) := ⟨by rw [flat_len (HSX.out.drop p), List.length_drop, HNOW.out]; omega⟩
            obtain ⟨b5, off5, rfl, _, _⟩ := hbt.spot (by omega)
            have hpt := hbt.part (64 * p) (len5 - 64 * p) (c5 - 64 * p) (by omega) (by omega) (by unfold maxLen; omega)
            rw [List.take_of_length_le (by rw [List.length_drop, hbt.len_eq]; exact Nat.le_refl _), HFD.out] at hpt
            have HBAD : Bx (¬ (rdE (flat (F.drop p)) = 0 ∧ rdS (flat (F.drop p)) = (T.length : Int) + 1) → none = rdF s.now) := ⟨fun hb => by rw [← HRDF.out, ← HR.out]; exact (rfr_bad (by rw [HNOW.out]; exact hu) (by rw [HNOW.out]; exact hlt) HZ.out hb).symm⟩
            have HGO : Bx (rdE (flat (F.drop p)) = 0 → rdS (flat (F.drop p)) = (T.length : Int) + 1 → ∃ v, u = v + 1 ∧ rfr F v (p + ns (rdN (flat (F.drop p)))) (T ++ [rdT (flat (F.drop p))]) = rdF F) := ⟨fun h1 h2 => by
              obtain ⟨v, e1, e2⟩ := rfr_go (by rw [HNOW.out]; exact hu) (by rw [HNOW.out]; exact hlt) HZ.out h1 h2
              exact ⟨v, e1, by rw [← e2]; exact HR.out⟩⟩
            have g2 : 64 * (p : Int) ≤ (len5 : Int) := by omega
            have g3 : ¬ c5 = 64 * p := by omega
            have g4 : (0 : Int) ≤ 64 * (p : Int) := by omega
            have g5 : (64 * (p : Int)).toNat = 64 * p := by omega
            have HBWn : Bx (∀ W, Below w6.heap.size w6 W → Below w.heap.size w W) := ⟨fun W hW => bstep (HLA.out.trans (HKB.out.low (B := w.heap.size) (fun k hk => by have hk : k = gl := hk; rw [hk, HGL.out]; exact Nat.le_refl _) HLA.out.size)) hW⟩
            have HP5 : Bx (64 * n = len5) := ⟨hl5⟩
            clear hHeld hS0 HC1 HC2 hlI hz hbt hb6 hm6 hl5 HR
            generalize flat (F.drop p) = Z at HXB HXL HBAD HGO hpt
            go_wp2_with fail
            refine (refread8_any _ _ _ _ _ hpt).mono ?_
            rintro e w3 ⟨v3, rfl, hown3, hb3⟩
            have HB3 := Bx.mk hb3
            clear c2
            by_cases he0 : rdE Z = 0
            · obtain ⟨r1, r2, r3, r4, r5⟩ := rdN_le HXB.out he0
              rw [HXL.out] at r1
              obtain ⟨a3, c3, rfl, hm3⟩ := Bts.of_owns hown3 (rdT_byt HXB.out)
              rw [he0]
              have hu1 : (T.length : Int) % 18446744073709551616 = (T.length : Int) := by omega
              have hu2' : ((T.length : Int) + 1) % 18446744073709551616 = (T.length : Int) + 1 := by omega
              have hlg3 := HLGB.out.below hb3
              have c1 := hlg3.c1
              have c2 := hlg3.c2
              by_cases hs1 : rdS Z = (T.length : Int) + 1
              · obtain ⟨u', hu', HR'⟩ := HGO.out he0 hs1
                have HFR : Bx (0 < (rdT Z).length → ∀ q, a3 = some q → ¬ own1 q.block ∧ wr.heap.size ≤ q.block) := ⟨fun _ q e => by
                  have h1 := own_ge hown3 q e
                  have h2 := HBR.out.size
                  exact ⟨fun ho => by have := HLG.out.lt _ ho; omega, by omega⟩⟩
                have HTO' : Bx (TOk (T ++ [rdT Z])) := ⟨HTO.out.snoc r3 hm3.byt⟩
                have HRR : Bx _ := ⟨HR'⟩
                have hp5 := HP5.out
                have hns : ns (rdN Z) ≤ n - p := by unfold ns; omega
                have hns1 : 1 ≤ ns (rdN Z) := by unfold ns; omega
                have hrn : rdN Z ≤ 1000000 := by omega
                have hu2 : n < u' + (p + ns (rdN Z)) := by omega
                have hsb : (rdS Z != (T.length : Int) + 1) = false := by rw [hs1]; simp
                have HQQ : Bx ((p : Int) + ((rdN Z : Int) + 63) / 64 = ((p + ns (rdN Z) : Nat) : Int)) := ⟨by unfold ns; omega⟩
                have hbA : Below w3.heap.size w3 (w3.alloc (.cells #[.slice a3 (rdT Z).length c3] 46)) := (Below.refl _ _).alloc (Nat.le_refl _) _
                have HLK : Bx (RgR (w3.alloc (.cells #[.slice a3 (rdT Z).length c3] 46)) gl own1 g ⟨T, p, false⟩ (.slice av T.length cv)) := ⟨hlg3.below hbA⟩
                have HKK : Bx (Kept own1 wr (w3.alloc (.cells #[.slice a3 (rdT Z).length c3] 46))) := ⟨((Kept.of_below HBR.out).below hb3).below hbA⟩
                have HM3 := Bx.mk (hm3.below hbA)
                obtain ⟨xs, hxo, HTA⟩ := HLK.out.tl.open
                obtain ⟨i0, hi, hz0, hz1, hz2⟩ := info_parts Tryz.info22
                have hTl : T.length ≤ 4096 := by omega
                have HLN : Bx ((T ++ [rdT Z]).length ≤ p + ns (rdN Z)) := ⟨by rw [List.length_append]; show T.length + 1 ≤ _; omega⟩
                clear HGO HBAD hown3 hb3 hm3 hpt he0 HR' r1 r2 r3 r4 r5 hu' hs1 hp5 hlg3 hbA
                generalize rdS Z = S at hsb ⊢
                generalize hrt : rdT Z = t at HFR HTO' HM3 HRR HLK HKK hxo HTA HLN ⊢
                clear hrt
                generalize hrn2 : rdN Z = mN at hns hns1 hrn hu2 HRR HQQ HLN ⊢
                clear hrn2
                generalize ht1 : t.length = tl at HFR HM3 HLK HKK hxo HTA ⊢
                clear ht1
                have hxo2 : (w3.alloc (.cells #[.slice a3 tl c3] 46)).ownsRow 0 46 1 (.slice av T.length cv) T.length xs := hxo
                clear hxo
                go_wp2_with (at_builtin; refine wpList_append_lies _ rfl (.tmp 85) (.tmp 87) 57 rfl 0 46 i0 (.slice none 0 0) 1 24 Tryz.underlying57 hi hz0 hz1 hz2 rfl (by decide) _ T.length xs rfl hxo2 ⟨w3.heap.size, 0, none⟩ 1 1 [.slice a3 tl c3] rfl rfl (cell_one_new _ _ _) (by simp [Value.oneCell']) (by decide) (by unfold maxLen; omega) (by omega) (Nat.zero_le _) _ rfl ?_; intro g4 cap4 w4 hown4 hgr4 hl4 _; obtain ⟨d1, f1, HX⟩ := RgR.more HLK.out HTA.out HM3.out HFR.out HKK.out hown4 hgr4 hl4; obtain ⟨own2, vt2, hX, hK2, hsub, hnew⟩ := HX.out; have d2 := hX.c2; have f2 := hX.fr 2; have HXX := Bx.mk hX; have HK2 := Bx.mk hK2; have HNEW := Bx.mk hnew; clear hX hK2 hsub hnew HX hown4 hgr4 hl4 hi hz0 hz1 hz2 hxo2 c1 c2)
                rw [HQQ.out]
                have HL9 := Bx.mk (HXX.out.setNext (p + ns mN) HTO'.out HLN.out (by omega))
                have HK9 : Bx (Kept (fun k => k = gl) wA ((w4.setCell ⟨gl, 1, none⟩ (.slice (some ⟨g4, 0, none⟩) (T.length + 1) cap4)).setCell ⟨gl, 2, none⟩ (.int .i64 ((p + ns mN : Nat) : Int)))) := ⟨(HK.out.trans HK2.out (fun k hk => HO1.out k hk)).setCell (.inl rfl) 2 _⟩
                have HO9 : Bx (∀ k, own2 k → k = gl ∨ wA.heap.size ≤ k) := ⟨fun k hk => by
                  rcases HNEW.out k hk with h1 | h1
                  · exact HO1.out k h1
                  · have := HK.out.size; exact .inr (by omega)⟩
                clear d1 f1 d2 f2 HXX HK2 HNEW
                generalize (w4.setCell ⟨gl, 1, none⟩ (.slice (some ⟨g4, 0, none⟩) (T.length + 1) cap4)).setCell ⟨gl, 2, none⟩ (.int .i64 ((p + ns mN : Nat) : Int)) = wq at HL9 HK9 ⊢
                have HME : Bx (n - nxt wq gl < n - nxt wr gl) := ⟨by
                  have e1 : nxt wq gl = p + ns mN := nxt_of HL9.out.c2
                  have e2 : nxt wr gl = p := nxt_of HLG.out.c2
                  rw [e1, e2]; omega⟩
                go_roundw
                case rel => exact ⟨p + ns mN, T ++ [t], u', own2, vt2, by omega, HLN.out, HTO', hu2, HRR, HL9, HK9, HO9⟩
                case measure => exact HME.out
              · have HNO := Bx.mk (HBAD.out (fun hh => hs1 hh.2))
                have hsb : (rdS Z != (T.length : Int) + 1) = true := by simpa using hs1
                clear HGO HBAD hown3 hb3 hm3 hpt he0 r1 r2 r3 r4 r5 hs1 hlg3
                generalize rdS Z = S at hsb ⊢
                generalize (rdT Z).length = tl
                generalize rdN Z = mN
                go_wp2_with fail
                go_ret2
                exact ROP.no HNO.out (HBWn.out _ HB3.out)
            · have HNO := Bx.mk (HBAD.out (fun hh => he0 hh.1))
              have heb : (rdE Z != 0) = true := by simpa using he0
              clear HGO HBAD hown3 hb3 hpt he0
              generalize rdS Z = S
              generalize rdN Z = mN
              generalize rdE Z = E at heb ⊢
              go_wp2_with fail
              go_ret2
              exact ROP.no HNO.out (HBWn.out _ HB3.out)
        · have hpn : p = n := by omega
          have hlI : decide ((p : Int) < (n : Int)) = false := decide_eq_false (by omega)
          have HY : Bx (some (T, p) = rdF s.now) := ⟨by rw [← HRDF.out, ← HR.out]; exact (rfr_end (by rw [HNOW.out]; exact hu) (by rw [HNOW.out]; exact hp) (fun hh => hlt (by rw [← HNOW.out]; exact hh.1))).symm⟩
          have c2 := HLG.out.c2
          have d0 := (HRW.out wr HK.out).c0
          clear hpn HR HTO
          go_wp2_with fail
          go_quiet (fail)
          clear c2 d0
          obtain ⟨wB, vt, HWB, HLG, HKB⟩ : ∃ wB vt, Bx (wB = wr.drewN nq) ∧ Bx (RgR wB gl own1 g ⟨T, p, false⟩ vt) ∧ Bx (Kept (fun k => k = gl) wA wB) := ⟨_, _, ⟨rfl⟩, ⟨HLG.out.keep (fun _ _ => rfl) (Nat.le_refl _)⟩, ⟨HK.out.drewN nq⟩⟩
          rw [← HWB.out]
          -- noughts behind the log's end: wB the world, the log in it
          have HRB : Bx (RS wB g own s m) := ⟨⟨X, left, true, vl, by rw [← HNL.out]; exact HRW.out wB HKB.out, HSIM.out, HXM.out⟩⟩
          have HBW : Bx (Below w.heap.size w wB) := ⟨HLA.out.trans (HKB.out.low (B := w.heap.size) (fun k hk => by have hk : k = gl := hk; rw [hk, HGL.out]; exact Nat.le_refl _) HLA.out.size)⟩
          have HOW : Bx (∀ k, own k → k < w.heap.size) := ⟨fun k hk => by have := HRF.out.lt k hk; exact this⟩
          have HOL : Bx (∀ k, own1 k → w.heap.size ≤ k) := ⟨fun k hk => by
            rcases HO1.out k hk with h1 | h1
            · rw [h1, HGL.out]; exact Nat.le_refl _
            · have := HLA.out.size; omega⟩
          have HDJ : Bx (∀ W own3, Did own wB W own3 → (∀ k, own1 k → ¬ own3 k) ∧ RgR W gl own1 g ⟨T, p, false⟩ vt) := ⟨fun W own3 hd => by
            have hdj : ∀ k, own1 k → ¬ own k := fun k hk ho => by have := HOW.out k ho; have := HOL.out k hk; omega
            refine ⟨fun k hk ho => ?_, HLG.out.keep (fun k hk => hd.kept.block k (HLG.out.lt k hk) (hdj k hk)) hd.kept.size⟩
            rcases hd.new k ho with h1 | h1
            · exact hdj k hk h1
            · have := HLG.out.lt k hk; omega⟩
          have HR0 : Bx (wipL F p (n - p) s false = s.wipR p) := ⟨by rw [HNL.out, HF.out]; rfl⟩
          have HF0 : Bx (∀ i, i < n → s.now.getD i [] = F.getD i []) := ⟨fun i _ => by rw [HF.out]⟩
          have d0 := (HRW.out wB HKB.out).c0
          have hnI : IntKind.i64.wrap ((n : Int) - 1) = (n : Int) - 1 := IntWalk.i64_in _ (by omega)
          clear HLG HKB
          go_wp2_with fail
          clear d0 hnI
          go_loopw [11, 12] (fun v i wr => ∃ (j : Nat) (b : Bool) (s1 : DS) (own3 : Nat → Prop), j ≤ n - p ∧ v = .bool b ∧ i = .int .i64 ((p : Int) + (j : Int) - 1) ∧ Bx (wipL F p j s1 b = s.wipR p) ∧ Bx (s1.F.length = n) ∧ Bx s1.Ok ∧ Bx (∀ i, i < p + j → s1.now.getD i [] = F.getD i []) ∧ Bx (RS wr g own3 s1 (m + (n - p - j))) ∧ Bx (Did own wB wr own3)) (fun _ i _ => (intOf i + 1).toNat)
          case atStart => exact ⟨n - p, false, s, own, Nat.le_refl _, rfl, by congr 1; omega, HR0, ⟨HNL.out.symm⟩, HOK, ⟨fun i hi => HF0.out i (by omega)⟩, ⟨HRB.out.le (by omega)⟩, ⟨Did.same (Kept.refl _ _)⟩⟩
          case round =>
            obtain ⟨j, b, s1, own3, hj, rfl, rfl, HR, HF1, HOK1, HNW, HRS1, HDI⟩ := hrel
            clear HR0 HRB HF0
            have c2 := (HDJ.out wr own3 HDI.out).2.c2
            by_cases hj0 : j = 0
            · subst hj0
              have hge : decide ((p : Int) + ((0 : Nat) : Int) - 1 ≥ (p : Int)) = false := decide_eq_false (by omega)
              have HRR : Bx (s.wipR p = (s1, b, 0)) := ⟨HR.out.symm⟩
              have HRS2 : Bx (RS wr g own3 s1 (m + s.F.length)) := ⟨HRS1.out.le (by rw [← HNL.out]; omega)⟩
              have HDW : Bx (∀ W own4, Did own3 wr W own4 → Did own w W own4) := ⟨fun W own4 hd => (Did.same (Kept.of_below HBW.out)).trans (HDI.out.trans hd)⟩
              clear HR HRS1
              cases b with
              | false =>
                have HE := wip_no HRR.out rfl rfl
                have HE' : Bx _ := ⟨HE⟩
                have hlg := HDJ.out wr own3 HDI.out
                have HLGF : Bx _ := ⟨hlg⟩
                clear HE HRR hlg
                go_wp2_with fail
                go_ret2
                exact ROP.ok HY.out HE'.out.1 (by rw [HE'.out.2]; exact HRS2.out) (HDW.out _ _ (Did.same (Kept.refl _ _))) ⟨vt, HLGF.out.2⟩ HOL.out HLGF.out.1
              | true =>
                have HE := wip_sy HRR.out rfl rfl
                have HE' : Bx _ := ⟨HE⟩
                clear HE HRR
                go_wp2_with fail
                refine (rsync_any g own3 s1 (m + s.F.length) _ HRS2.out HOK1.out (by rw [← HNL.out]; omega)).mono ?_
                rintro e w3 ⟨rfl, own5, hR5, hd5⟩
                rw [show s1.syE = s.wipE p from HE'.out.1.symm]
                have HR5 : Bx (RS w3 g own5 (s.wipS p) (m + s.F.length)) := ⟨by rw [HE'.out.2]; exact hR5⟩
                have HD5 : Bx (Did own w w3 own5) := ⟨HDW.out _ _ hd5⟩
                have HLGF := Bx.mk (HDJ.out w3 own5 (HDI.out.trans hd5))
                clear hR5 hd5 HE' c2
                by_cases hE : s.wipE p = 0
                · have HE := Bx.mk hE
                  rw [hE]
                  clear hE
                  go_wp2_with fail
                  go_ret2
                  exact ROP.ok HY.out HE.out HR5.out HD5.out ⟨vt, HLGF.out.2⟩ HOL.out HLGF.out.1
                · have heb : (s.wipE p != 0) = true := by simpa using hE
                  have HE := Bx.mk hE
                  obtain ⟨E, HEE⟩ : ∃ E, Bx (s.wipE p = E) := ⟨_, ⟨rfl⟩⟩
                  rw [HEE.out] at heb ⊢
                  clear hE
                  go_wp2_with fail
                  go_ret2
                  exact ROP.err HY.out HEE.out (by rw [← HEE.out]; exact HE.out) HR5.out HD5.out
            · skip
              exact absurd hj0 (by omega)
end Go.Proofs.YtjnjokbdoendkaaGreat
