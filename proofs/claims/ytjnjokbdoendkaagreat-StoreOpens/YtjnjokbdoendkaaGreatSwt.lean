/- What Next, Room and Texts of a log answer. What Texts of a log answers. -/
import Derived.Test.YtjnjokbdoendkaaGreatWalSmall
namespace Go.Proofs.YtjnjokbdoendkaaGreat
open Go.RowKit
set_option linter.unusedVariables false

/-- how long a text may be -/
def roomV (n next : Nat) : Int := if next = n then -1 else if 16384 < ((n : Int) - next) * 64 - 20 then 16384 else ((n : Int) - next) * 64 - 20
set_option maxRecDepth 100000 in
set_option maxHeartbeats 1000000 in
theorem room_big (gl gd : Nat) (own ownL : Nat → Prop) (s : DS) (L : LS) (w : World) (hD : Dsk w gd own s) (h : Lg w gl ownL gd L) (hn : L.next ≤ s.F.length) (he : ¬ L.next = s.F.length) (hbig :  16384 < ((s.F.length : Int) - L.next) * 64 - 20) :
    Calls Tryz.prog 55 #[.pointer (some ⟨gl, 0, none⟩)] w fun e w' => e = .returned (.int .i64 (roomV s.F.length L.next)) ∧ ∃ q, w' = w.drewN q := by
  obtain ⟨vt, hR⟩ := h
  have hn2 := hD.ok.n2
  have hk : w.drew.cell? ⟨gl, 0, none⟩ = some (.pointer (some ⟨gd, 0, none⟩)) ∧ w.drew.cell? ⟨gl, 2, none⟩ = some (.int .i64 (L.next : Int)) ∧ Dsk w.drew gd own s := ⟨hR.c0, hR.c2, hD.drewN 1⟩
  have HQ : Hid (w.drew = w.drewN 1) := rfl
  clear hR hD
  have hb : ((L.next : Int) == (s.F.length : Int)) = false := by simp; omega
  have hb2 : (L.next == s.F.length) = false := by simpa using he
  have HE : Bx (roomV s.F.length L.next = 16384) := ⟨by unfold roomV; rw [if_neg he, if_pos hbig]⟩
  clear he
  go_enter Tryz.func55, Tryz.ntmps55
  go_wp2_with fail
  refine wp_region_held_drew (S := fun W => W.cell? ⟨gl, 0, none⟩ = some (.pointer (some ⟨gd, 0, none⟩)) ∧ W.cell? ⟨gl, 2, none⟩ = some (.int .i64 (L.next : Int)) ∧ Dsk W gd own s) (by kernel_rfl) hk (fun _ => ?_)
  generalize w.drew = wd at hk HQ ⊢
  refine wpAnyH_take (i := 0) (oi := ⟨some 4, .move (.tmp 0), 81, "wal.go:175", #[], none⟩) (v := ?vwroom11) rfl (by kernel_rfl) (by kernel_rfl) (by kernel_rfl) (fun _ _ _ h => h) (Or.inl ⟨by rfl, ?ywroom11⟩) hk ?rwroom11
  case ywroom11 => (intro w hSw; (try dsimp only at hSw); go_simp; first | done | with_reducible rfl)
  simp only [Act.put, List.setIfInBounds_toArray, List.set_cons_zero, List.set_cons_succ]
  refine wpAnyH_ready (rs := [1]) (by decide +kernel) (by simp) ?_
  refine AllReadyH.cons (o := ⟨some 5, .call { callee := .value (.func 61), args := #[.tmp 4], argTypes := #[81] }, 4, "wal.go:175", #[⟨0, .data⟩], none⟩) rfl (fun K hK => ?_) AllReadyH.nil
  go_simp
  refine (lmade_yes gl gd _ hk.1).mono ?_
  rintro e1 w8 ⟨rfl, rfl⟩
  refine hK.out _ _ hk (fun _ => ?_)
  clear hK K
  try simp only [Act.put, List.setIfInBounds_toArray, List.set_cons_zero, List.set_cons_succ]
  refine wpAnyH_take (i := 2) (oi := ⟨some 6, .unOp UnOp.not 4 (.tmp 5), 4, "wal.go:175", #[⟨1, .data⟩], none⟩) (v := ?vwroom12) rfl (by kernel_rfl) (by kernel_rfl) (by kernel_rfl) (fun _ _ _ h => h) (Or.inl ⟨by rfl, ?ywroom12⟩) hk ?rwroom12
  case ywroom12 => (intro w hSw; (try dsimp only at hSw); go_simp; first | done | with_reducible rfl)
  simp only [Act.put, List.setIfInBounds_toArray, List.set_cons_zero, List.set_cons_succ]
  refine wpAnyH_take (i := 3) (oi := ⟨some 7, .move (.tmp 6), 4, "wal.go:175", #[⟨2, .data⟩, ⟨1, .chain⟩], none⟩) (v := ?vwroom13) rfl (by kernel_rfl) (by kernel_rfl) (by kernel_rfl) (fun _ _ _ h => h) (Or.inl ⟨by rfl, ?ywroom13⟩) hk ?rwroom13
  case ywroom13 => (intro w hSw; (try dsimp only at hSw); go_simp; first | done | with_reducible rfl)
  simp only [Act.put, List.setIfInBounds_toArray, List.set_cons_zero, List.set_cons_succ]
  refine wpAnyH_take (i := 4) (oi := ⟨some 8, .move (.tmp 0), 81, "wal.go:175", #[⟨3, .guard⟩], some (3, false)⟩) (v := ?vwroom14) rfl (by kernel_rfl) (by kernel_rfl) (by kernel_rfl) (fun _ _ _ h => h) (Or.inl ⟨by rfl, ?ywroom14⟩) hk ?rwroom14
  case ywroom14 => (intro w hSw; (try dsimp only at hSw); go_simp; first | done | with_reducible rfl)
  simp only [Act.put, List.setIfInBounds_toArray, List.set_cons_zero, List.set_cons_succ]
  refine wpAnyH_take (i := 5) (oi := ⟨some 9, .nilCheck (.tmp 8), 0, "wal.go:175", #[⟨4, .data⟩, ⟨3, .guard⟩], some (3, false)⟩) (v := ?vwroom15) rfl (by kernel_rfl) (by kernel_rfl) (by kernel_rfl) (fun _ _ _ h => h) (Or.inl ⟨by rfl, ?ywroom15⟩) hk ?rwroom15
  case ywroom15 => (intro w hSw; (try dsimp only at hSw); go_simp; first | done | with_reducible rfl)
  simp only [Act.put, List.setIfInBounds_toArray, List.set_cons_zero, List.set_cons_succ]
  refine wpAnyH_take (i := 6) (oi := ⟨some 10, .fieldAddr 121 (.tmp 9) 2, 0, "wal.go:175", #[⟨5, .data⟩, ⟨3, .guard⟩], some (3, false)⟩) (v := ?vwroom16) rfl (by kernel_rfl) (by kernel_rfl) (by kernel_rfl) (fun _ _ _ h => h) (Or.inl ⟨by rfl, ?ywroom16⟩) hk ?rwroom16
  case ywroom16 => (intro w hSw; (try dsimp only at hSw); go_simp; first | done | with_reducible rfl)
  simp only [Act.put, List.setIfInBounds_toArray, List.set_cons_zero, List.set_cons_succ]
  refine wpAnyH_take (i := 7) (oi := ⟨some 11, .load 3 (.tmp 10), 3, "wal.go:175", #[⟨6, .data⟩, ⟨3, .guard⟩], some (3, false)⟩) (v := ?vwroom17) rfl (by kernel_rfl) (by kernel_rfl) (by kernel_rfl) (fun _ _ _ h => h) (Or.inl ⟨by rfl, ?ywroom17⟩) hk ?rwroom17
  case ywroom17 => (intro w hSw; have hcw := hSw.2.1; clear hSw; go_simp; first | done | with_reducible rfl)
  simp only [Act.put, List.setIfInBounds_toArray, List.set_cons_zero, List.set_cons_succ]
  refine wpAnyH_take (i := 8) (oi := ⟨some 12, .move (.tmp 0), 81, "wal.go:175", #[⟨3, .guard⟩], some (3, false)⟩) (v := ?vwroom18) rfl (by kernel_rfl) (by kernel_rfl) (by kernel_rfl) (fun _ _ _ h => h) (Or.inl ⟨by rfl, ?ywroom18⟩) hk ?rwroom18
  case ywroom18 => (intro w hSw; (try dsimp only at hSw); go_simp; first | done | with_reducible rfl)
  simp only [Act.put, List.setIfInBounds_toArray, List.set_cons_zero, List.set_cons_succ]
  refine wpAnyH_take (i := 9) (oi := ⟨some 13, .nilCheck (.tmp 12), 0, "wal.go:175", #[⟨8, .data⟩, ⟨3, .guard⟩], some (3, false)⟩) (v := ?vwroom19) rfl (by kernel_rfl) (by kernel_rfl) (by kernel_rfl) (fun _ _ _ h => h) (Or.inl ⟨by rfl, ?ywroom19⟩) hk ?rwroom19
  case ywroom19 => (intro w hSw; (try dsimp only at hSw); go_simp; first | done | with_reducible rfl)
  simp only [Act.put, List.setIfInBounds_toArray, List.set_cons_zero, List.set_cons_succ]
  refine wpAnyH_take (i := 10) (oi := ⟨some 14, .fieldAddr 121 (.tmp 13) 0, 0, "wal.go:175", #[⟨9, .data⟩, ⟨3, .guard⟩], some (3, false)⟩) (v := ?vwroom110) rfl (by kernel_rfl) (by kernel_rfl) (by kernel_rfl) (fun _ _ _ h => h) (Or.inl ⟨by rfl, ?ywroom110⟩) hk ?rwroom110
  case ywroom110 => (intro w hSw; (try dsimp only at hSw); go_simp; first | done | with_reducible rfl)
  simp only [Act.put, List.setIfInBounds_toArray, List.set_cons_zero, List.set_cons_succ]
  refine wpAnyH_take (i := 11) (oi := ⟨some 15, .load 25 (.tmp 14), 25, "wal.go:175", #[⟨10, .data⟩, ⟨3, .guard⟩], some (3, false)⟩) (v := ?vwroom111) rfl (by kernel_rfl) (by kernel_rfl) (by kernel_rfl) (fun _ _ _ h => h) (Or.inl ⟨by rfl, ?ywroom111⟩) hk ?rwroom111
  case ywroom111 => (intro w hSw; have hcw := hSw.1; clear hSw; go_simp; first | done | with_reducible rfl)
  simp only [Act.put, List.setIfInBounds_toArray, List.set_cons_zero, List.set_cons_succ]
  refine wpAnyH_ready (rs := [12]) (by decide +kernel) (by simp) ?_
  refine AllReadyH.cons (o := ⟨some 16, .call { callee := .value (.func 57), args := #[.tmp 15], argTypes := #[25] }, 3, "wal.go:175", #[⟨11, .data⟩, ⟨3, .chain⟩, ⟨3, .guard⟩], some (3, false)⟩) rfl (fun K hK => ?_) AllReadyH.nil
  go_simp
  refine (sectors_any gd own s _ hk.2.2).mono ?_
  rintro e1 w8 ⟨rfl, rfl⟩
  refine hK.out _ _ hk (fun _ => ?_)
  clear hK K
  try simp only [Act.put, List.setIfInBounds_toArray, List.set_cons_zero, List.set_cons_succ]
  refine wpAnyH_take (i := 13) (oi := ⟨some 17, .binOp .eql 3 (.tmp 11) (.tmp 16) 3, 4, "wal.go:175", #[⟨7, .data⟩, ⟨12, .data⟩, ⟨3, .guard⟩], some (3, false)⟩) (v := ?vwroom112) rfl (by kernel_rfl) (by kernel_rfl) (by kernel_rfl) (fun _ _ _ h => h) (Or.inl ⟨by rfl, ?ywroom112⟩) hk ?rwroom112
  case ywroom112 => (intro w hSw; (try dsimp only at hSw); go_simp; first | done | with_reducible rfl)
  simp only [Act.put, List.setIfInBounds_toArray, List.set_cons_zero, List.set_cons_succ]
  refine wpAnyH_take (i := 14) (oi := ⟨some 18, .pick (.tmp 7) (.const (Value.bool true)) (.tmp 17), 4, "wal.go:175", #[⟨3, .data⟩, ⟨13, .data⟩], none⟩) (v := ?vwroom113) rfl (by kernel_rfl) (by kernel_rfl) (by kernel_rfl) (fun _ _ _ h => h) (Or.inl ⟨by rfl, ?ywroom113⟩) hk ?rwroom113
  case ywroom113 => (intro w hSw; (try dsimp only at hSw); go_simp; first | done | with_reducible rfl)
  simp only [Act.put, List.setIfInBounds_toArray, List.set_cons_zero, List.set_cons_succ]
  refine wpAnyH_done (by decide +kernel) ?_ _
  replace hk : wd.drew.cell? ⟨gl, 0, none⟩ = some (.pointer (some ⟨gd, 0, none⟩)) ∧ wd.drew.cell? ⟨gl, 2, none⟩ = some (.int .i64 (L.next : Int)) ∧ Dsk wd.drew gd own s := ⟨hk.1, hk.2.1, hk.2.2.drewN 1⟩
  replace HQ : Hid (wd.drew = w.drewN (1 + 1)) := by show _ = _; rw [HQ.out]; rfl
  have hw1 : IntKind.i64.wrap ((s.F.length : Int) - (L.next : Int)) = (s.F.length : Int) - (L.next : Int) := IntWalk.i64_in _ (by omega)
  have hw2 : IntKind.i64.wrap (((s.F.length : Int) - (L.next : Int)) * 64) = ((s.F.length : Int) - (L.next : Int)) * 64 := IntWalk.i64_in _ (by omega)
  go_wp2_with fail
  refine wp_region_held_drew (S := fun W => W.cell? ⟨gl, 0, none⟩ = some (.pointer (some ⟨gd, 0, none⟩)) ∧ W.cell? ⟨gl, 2, none⟩ = some (.int .i64 (L.next : Int)) ∧ Dsk W gd own s) (by kernel_rfl) hk (fun _ => ?_)
  generalize wd.drew = we at hk HQ ⊢
  refine wpAnyH_take (i := 0) (oi := ⟨some 19, .move (.tmp 0), 81, "wal.go:178", #[], none⟩) (v := ?vwroom31) rfl (by kernel_rfl) (by kernel_rfl) (by kernel_rfl) (fun _ _ _ h => h) (Or.inl ⟨by rfl, ?ywroom31⟩) hk ?rwroom31
  case ywroom31 => (intro w hSw; (try dsimp only at hSw); go_simp; first | done | with_reducible rfl)
  simp only [Act.put, List.setIfInBounds_toArray, List.set_cons_zero, List.set_cons_succ]
  refine wpAnyH_take (i := 1) (oi := ⟨some 20, .nilCheck (.tmp 19), 0, "wal.go:178", #[⟨0, .data⟩], none⟩) (v := ?vwroom32) rfl (by kernel_rfl) (by kernel_rfl) (by kernel_rfl) (fun _ _ _ h => h) (Or.inl ⟨by rfl, ?ywroom32⟩) hk ?rwroom32
  case ywroom32 => (intro w hSw; (try dsimp only at hSw); go_simp; first | done | with_reducible rfl)
  simp only [Act.put, List.setIfInBounds_toArray, List.set_cons_zero, List.set_cons_succ]
  refine wpAnyH_take (i := 2) (oi := ⟨some 21, .fieldAddr 121 (.tmp 20) 0, 0, "wal.go:178", #[⟨1, .data⟩], none⟩) (v := ?vwroom33) rfl (by kernel_rfl) (by kernel_rfl) (by kernel_rfl) (fun _ _ _ h => h) (Or.inl ⟨by rfl, ?ywroom33⟩) hk ?rwroom33
  case ywroom33 => (intro w hSw; (try dsimp only at hSw); go_simp; first | done | with_reducible rfl)
  simp only [Act.put, List.setIfInBounds_toArray, List.set_cons_zero, List.set_cons_succ]
  refine wpAnyH_take (i := 3) (oi := ⟨some 22, .load 25 (.tmp 21), 25, "wal.go:178", #[⟨2, .data⟩], none⟩) (v := ?vwroom34) rfl (by kernel_rfl) (by kernel_rfl) (by kernel_rfl) (fun _ _ _ h => h) (Or.inl ⟨by rfl, ?ywroom34⟩) hk ?rwroom34
  case ywroom34 => (intro w hSw; have hcw := hSw.1; clear hSw; go_simp; first | done | with_reducible rfl)
  simp only [Act.put, List.setIfInBounds_toArray, List.set_cons_zero, List.set_cons_succ]
  refine wpAnyH_take (i := 5) (oi := ⟨some 24, .move (.tmp 0), 81, "wal.go:178", #[], none⟩) (v := ?vwroom35) rfl (by kernel_rfl) (by kernel_rfl) (by kernel_rfl) (fun _ _ _ h => h) (Or.inl ⟨by rfl, ?ywroom35⟩) hk ?rwroom35
  case ywroom35 => (intro w hSw; (try dsimp only at hSw); go_simp; first | done | with_reducible rfl)
  simp only [Act.put, List.setIfInBounds_toArray, List.set_cons_zero, List.set_cons_succ]
  refine wpAnyH_take (i := 6) (oi := ⟨some 25, .nilCheck (.tmp 24), 0, "wal.go:178", #[⟨5, .data⟩], none⟩) (v := ?vwroom36) rfl (by kernel_rfl) (by kernel_rfl) (by kernel_rfl) (fun _ _ _ h => h) (Or.inl ⟨by rfl, ?ywroom36⟩) hk ?rwroom36
  case ywroom36 => (intro w hSw; (try dsimp only at hSw); go_simp; first | done | with_reducible rfl)
  simp only [Act.put, List.setIfInBounds_toArray, List.set_cons_zero, List.set_cons_succ]
  refine wpAnyH_take (i := 7) (oi := ⟨some 26, .fieldAddr 121 (.tmp 25) 2, 0, "wal.go:178", #[⟨6, .data⟩], none⟩) (v := ?vwroom37) rfl (by kernel_rfl) (by kernel_rfl) (by kernel_rfl) (fun _ _ _ h => h) (Or.inl ⟨by rfl, ?ywroom37⟩) hk ?rwroom37
  case ywroom37 => (intro w hSw; (try dsimp only at hSw); go_simp; first | done | with_reducible rfl)
  simp only [Act.put, List.setIfInBounds_toArray, List.set_cons_zero, List.set_cons_succ]
  refine wpAnyH_take (i := 8) (oi := ⟨some 27, .load 3 (.tmp 26), 3, "wal.go:178", #[⟨7, .data⟩], none⟩) (v := ?vwroom38) rfl (by kernel_rfl) (by kernel_rfl) (by kernel_rfl) (fun _ _ _ h => h) (Or.inl ⟨by rfl, ?ywroom38⟩) hk ?rwroom38
  case ywroom38 => (intro w hSw; have hcw := hSw.2.1; clear hSw; go_simp; first | done | with_reducible rfl)
  simp only [Act.put, List.setIfInBounds_toArray, List.set_cons_zero, List.set_cons_succ]
  refine wpAnyH_ready (rs := [4]) (by decide +kernel) (by simp) ?_
  refine AllReadyH.cons (o := ⟨some 23, .call { callee := .value (.func 57), args := #[.tmp 22], argTypes := #[25] }, 3, "wal.go:178", #[⟨3, .data⟩], none⟩) rfl (fun K hK => ?_) AllReadyH.nil
  go_simp
  refine (sectors_any gd own s _ hk.2.2).mono ?_
  rintro e1 w8 ⟨rfl, rfl⟩
  refine hK.out _ _ hk (fun _ => ?_)
  clear hK K
  try simp only [Act.put, List.setIfInBounds_toArray, List.set_cons_zero, List.set_cons_succ]
  refine wpAnyH_take (i := 9) (oi := ⟨some 28, .binOp .sub 3 (.tmp 23) (.tmp 27) 3, 3, "wal.go:178", #[⟨4, .data⟩, ⟨8, .data⟩], none⟩) (v := ?vwroom39) rfl (by kernel_rfl) (by kernel_rfl) (by kernel_rfl) (fun _ _ _ h => h) (Or.inl ⟨by rfl, ?ywroom39⟩) hk ?rwroom39
  case ywroom39 => (intro w hSw; (try dsimp only at hSw); go_simp; first | done | with_reducible rfl)
  simp only [Act.put, List.setIfInBounds_toArray, List.set_cons_zero, List.set_cons_succ]
  refine wpAnyH_take (i := 10) (oi := ⟨some 29, .binOp .mul 3 (.tmp 28) (.const (Value.int IntKind.i64 64)) 3, 3, "wal.go:178", #[⟨9, .data⟩], none⟩) (v := ?vwroom310) rfl (by kernel_rfl) (by kernel_rfl) (by kernel_rfl) (fun _ _ _ h => h) (Or.inl ⟨by rfl, ?ywroom310⟩) hk ?rwroom310
  case ywroom310 => (intro w hSw; (try dsimp only at hSw); go_simp; first | done | with_reducible rfl)
  simp only [Act.put, List.setIfInBounds_toArray, List.set_cons_zero, List.set_cons_succ]
  refine wpAnyH_take (i := 11) (oi := ⟨some 3, .assign (.tmp 29), 3, "wal.go:178", #[⟨10, .data⟩, ⟨4, .chain⟩, ⟨0, .phase⟩, ⟨1, .phase⟩, ⟨2, .phase⟩, ⟨3, .phase⟩, ⟨4, .phase⟩, ⟨5, .phase⟩, ⟨6, .phase⟩, ⟨7, .phase⟩, ⟨8, .phase⟩, ⟨9, .phase⟩, ⟨10, .phase⟩], none⟩) (v := ?vwroom311) rfl (by kernel_rfl) (by kernel_rfl) (by kernel_rfl) (fun _ _ _ h => h) (Or.inl ⟨by rfl, ?ywroom311⟩) hk ?rwroom311
  case ywroom311 => (intro w hSw; (try dsimp only at hSw); go_simp; first | done | with_reducible rfl)
  simp only [Act.put, List.setIfInBounds_toArray, List.set_cons_zero, List.set_cons_succ]
  refine wpAnyH_done (by decide +kernel) ?_ _
  clear hk
  go_wp2_with fail
  refine (size_any 0 _ (by decide)).mono ?_
  rintro e w' ⟨rfl, rfl⟩
  go_wp2
  go_ret
  exact ⟨ret_int HE.out.symm, _, HQ.out⟩
set_option maxRecDepth 100000 in
set_option maxHeartbeats 1000000 in
theorem room_some (gl gd : Nat) (own ownL : Nat → Prop) (s : DS) (L : LS) (w : World) (hD : Dsk w gd own s) (h : Lg w gl ownL gd L) (hn : L.next ≤ s.F.length) (he : ¬ L.next = s.F.length) (hbig : ¬ 16384 < ((s.F.length : Int) - L.next) * 64 - 20) :
    Calls Tryz.prog 55 #[.pointer (some ⟨gl, 0, none⟩)] w fun e w' => e = .returned (.int .i64 (roomV s.F.length L.next)) ∧ ∃ q, w' = w.drewN q := by
  obtain ⟨vt, hR⟩ := h
  have hn2 := hD.ok.n2
  have hk : w.drew.cell? ⟨gl, 0, none⟩ = some (.pointer (some ⟨gd, 0, none⟩)) ∧ w.drew.cell? ⟨gl, 2, none⟩ = some (.int .i64 (L.next : Int)) ∧ Dsk w.drew gd own s := ⟨hR.c0, hR.c2, hD.drewN 1⟩
  have HQ : Hid (w.drew = w.drewN 1) := rfl
  clear hR hD
  have hb : ((L.next : Int) == (s.F.length : Int)) = false := by simp; omega
  have hb2 : (L.next == s.F.length) = false := by simpa using he
  have HE : Bx (roomV s.F.length L.next = ((s.F.length : Int) - L.next) * 64 - 20) := ⟨by unfold roomV; rw [if_neg he, if_neg hbig]⟩
  clear he
  go_enter Tryz.func55, Tryz.ntmps55
  go_wp2_with fail
  refine wp_region_held_drew (S := fun W => W.cell? ⟨gl, 0, none⟩ = some (.pointer (some ⟨gd, 0, none⟩)) ∧ W.cell? ⟨gl, 2, none⟩ = some (.int .i64 (L.next : Int)) ∧ Dsk W gd own s) (by kernel_rfl) hk (fun _ => ?_)
  generalize w.drew = wd at hk HQ ⊢
  refine wpAnyH_take (i := 0) (oi := ⟨some 4, .move (.tmp 0), 81, "wal.go:175", #[], none⟩) (v := ?vwroom11) rfl (by kernel_rfl) (by kernel_rfl) (by kernel_rfl) (fun _ _ _ h => h) (Or.inl ⟨by rfl, ?ywroom11⟩) hk ?rwroom11
  case ywroom11 => (intro w hSw; (try dsimp only at hSw); go_simp; first | done | with_reducible rfl)
  simp only [Act.put, List.setIfInBounds_toArray, List.set_cons_zero, List.set_cons_succ]
  refine wpAnyH_ready (rs := [1]) (by decide +kernel) (by simp) ?_
  refine AllReadyH.cons (o := ⟨some 5, .call { callee := .value (.func 61), args := #[.tmp 4], argTypes := #[81] }, 4, "wal.go:175", #[⟨0, .data⟩], none⟩) rfl (fun K hK => ?_) AllReadyH.nil
  go_simp
  refine (lmade_yes gl gd _ hk.1).mono ?_
  rintro e1 w8 ⟨rfl, rfl⟩
  refine hK.out _ _ hk (fun _ => ?_)
  clear hK K
  try simp only [Act.put, List.setIfInBounds_toArray, List.set_cons_zero, List.set_cons_succ]
  refine wpAnyH_take (i := 2) (oi := ⟨some 6, .unOp UnOp.not 4 (.tmp 5), 4, "wal.go:175", #[⟨1, .data⟩], none⟩) (v := ?vwroom12) rfl (by kernel_rfl) (by kernel_rfl) (by kernel_rfl) (fun _ _ _ h => h) (Or.inl ⟨by rfl, ?ywroom12⟩) hk ?rwroom12
  case ywroom12 => (intro w hSw; (try dsimp only at hSw); go_simp; first | done | with_reducible rfl)
  simp only [Act.put, List.setIfInBounds_toArray, List.set_cons_zero, List.set_cons_succ]
  refine wpAnyH_take (i := 3) (oi := ⟨some 7, .move (.tmp 6), 4, "wal.go:175", #[⟨2, .data⟩, ⟨1, .chain⟩], none⟩) (v := ?vwroom13) rfl (by kernel_rfl) (by kernel_rfl) (by kernel_rfl) (fun _ _ _ h => h) (Or.inl ⟨by rfl, ?ywroom13⟩) hk ?rwroom13
  case ywroom13 => (intro w hSw; (try dsimp only at hSw); go_simp; first | done | with_reducible rfl)
  simp only [Act.put, List.setIfInBounds_toArray, List.set_cons_zero, List.set_cons_succ]
  refine wpAnyH_take (i := 4) (oi := ⟨some 8, .move (.tmp 0), 81, "wal.go:175", #[⟨3, .guard⟩], some (3, false)⟩) (v := ?vwroom14) rfl (by kernel_rfl) (by kernel_rfl) (by kernel_rfl) (fun _ _ _ h => h) (Or.inl ⟨by rfl, ?ywroom14⟩) hk ?rwroom14
  case ywroom14 => (intro w hSw; (try dsimp only at hSw); go_simp; first | done | with_reducible rfl)
  simp only [Act.put, List.setIfInBounds_toArray, List.set_cons_zero, List.set_cons_succ]
  refine wpAnyH_take (i := 5) (oi := ⟨some 9, .nilCheck (.tmp 8), 0, "wal.go:175", #[⟨4, .data⟩, ⟨3, .guard⟩], some (3, false)⟩) (v := ?vwroom15) rfl (by kernel_rfl) (by kernel_rfl) (by kernel_rfl) (fun _ _ _ h => h) (Or.inl ⟨by rfl, ?ywroom15⟩) hk ?rwroom15
  case ywroom15 => (intro w hSw; (try dsimp only at hSw); go_simp; first | done | with_reducible rfl)
  simp only [Act.put, List.setIfInBounds_toArray, List.set_cons_zero, List.set_cons_succ]
  refine wpAnyH_take (i := 6) (oi := ⟨some 10, .fieldAddr 121 (.tmp 9) 2, 0, "wal.go:175", #[⟨5, .data⟩, ⟨3, .guard⟩], some (3, false)⟩) (v := ?vwroom16) rfl (by kernel_rfl) (by kernel_rfl) (by kernel_rfl) (fun _ _ _ h => h) (Or.inl ⟨by rfl, ?ywroom16⟩) hk ?rwroom16
  case ywroom16 => (intro w hSw; (try dsimp only at hSw); go_simp; first | done | with_reducible rfl)
  simp only [Act.put, List.setIfInBounds_toArray, List.set_cons_zero, List.set_cons_succ]
  refine wpAnyH_take (i := 7) (oi := ⟨some 11, .load 3 (.tmp 10), 3, "wal.go:175", #[⟨6, .data⟩, ⟨3, .guard⟩], some (3, false)⟩) (v := ?vwroom17) rfl (by kernel_rfl) (by kernel_rfl) (by kernel_rfl) (fun _ _ _ h => h) (Or.inl ⟨by rfl, ?ywroom17⟩) hk ?rwroom17
  case ywroom17 => (intro w hSw; have hcw := hSw.2.1; clear hSw; go_simp; first | done | with_reducible rfl)
  simp only [Act.put, List.setIfInBounds_toArray, List.set_cons_zero, List.set_cons_succ]
  refine wpAnyH_take (i := 8) (oi := ⟨some 12, .move (.tmp 0), 81, "wal.go:175", #[⟨3, .guard⟩], some (3, false)⟩) (v := ?vwroom18) rfl (by kernel_rfl) (by kernel_rfl) (by kernel_rfl) (fun _ _ _ h => h) (Or.inl ⟨by rfl, ?ywroom18⟩) hk ?rwroom18
  case ywroom18 => (intro w hSw; (try dsimp only at hSw); go_simp; first | done | with_reducible rfl)
  simp only [Act.put, List.setIfInBounds_toArray, List.set_cons_zero, List.set_cons_succ]
  refine wpAnyH_take (i := 9) (oi := ⟨some 13, .nilCheck (.tmp 12), 0, "wal.go:175", #[⟨8, .data⟩, ⟨3, .guard⟩], some (3, false)⟩) (v := ?vwroom19) rfl (by kernel_rfl) (by kernel_rfl) (by kernel_rfl) (fun _ _ _ h => h) (Or.inl ⟨by rfl, ?ywroom19⟩) hk ?rwroom19
  case ywroom19 => (intro w hSw; (try dsimp only at hSw); go_simp; first | done | with_reducible rfl)
  simp only [Act.put, List.setIfInBounds_toArray, List.set_cons_zero, List.set_cons_succ]
  refine wpAnyH_take (i := 10) (oi := ⟨some 14, .fieldAddr 121 (.tmp 13) 0, 0, "wal.go:175", #[⟨9, .data⟩, ⟨3, .guard⟩], some (3, false)⟩) (v := ?vwroom110) rfl (by kernel_rfl) (by kernel_rfl) (by kernel_rfl) (fun _ _ _ h => h) (Or.inl ⟨by rfl, ?ywroom110⟩) hk ?rwroom110
  case ywroom110 => (intro w hSw; (try dsimp only at hSw); go_simp; first | done | with_reducible rfl)
  simp only [Act.put, List.setIfInBounds_toArray, List.set_cons_zero, List.set_cons_succ]
  refine wpAnyH_take (i := 11) (oi := ⟨some 15, .load 25 (.tmp 14), 25, "wal.go:175", #[⟨10, .data⟩, ⟨3, .guard⟩], some (3, false)⟩) (v := ?vwroom111) rfl (by kernel_rfl) (by kernel_rfl) (by kernel_rfl) (fun _ _ _ h => h) (Or.inl ⟨by rfl, ?ywroom111⟩) hk ?rwroom111
  case ywroom111 => (intro w hSw; have hcw := hSw.1; clear hSw; go_simp; first | done | with_reducible rfl)
  simp only [Act.put, List.setIfInBounds_toArray, List.set_cons_zero, List.set_cons_succ]
  refine wpAnyH_ready (rs := [12]) (by decide +kernel) (by simp) ?_
  refine AllReadyH.cons (o := ⟨some 16, .call { callee := .value (.func 57), args := #[.tmp 15], argTypes := #[25] }, 3, "wal.go:175", #[⟨11, .data⟩, ⟨3, .chain⟩, ⟨3, .guard⟩], some (3, false)⟩) rfl (fun K hK => ?_) AllReadyH.nil
  go_simp
  refine (sectors_any gd own s _ hk.2.2).mono ?_
  rintro e1 w8 ⟨rfl, rfl⟩
  refine hK.out _ _ hk (fun _ => ?_)
  clear hK K
  try simp only [Act.put, List.setIfInBounds_toArray, List.set_cons_zero, List.set_cons_succ]
  refine wpAnyH_take (i := 13) (oi := ⟨some 17, .binOp .eql 3 (.tmp 11) (.tmp 16) 3, 4, "wal.go:175", #[⟨7, .data⟩, ⟨12, .data⟩, ⟨3, .guard⟩], some (3, false)⟩) (v := ?vwroom112) rfl (by kernel_rfl) (by kernel_rfl) (by kernel_rfl) (fun _ _ _ h => h) (Or.inl ⟨by rfl, ?ywroom112⟩) hk ?rwroom112
  case ywroom112 => (intro w hSw; (try dsimp only at hSw); go_simp; first | done | with_reducible rfl)
  simp only [Act.put, List.setIfInBounds_toArray, List.set_cons_zero, List.set_cons_succ]
  refine wpAnyH_take (i := 14) (oi := ⟨some 18, .pick (.tmp 7) (.const (Value.bool true)) (.tmp 17), 4, "wal.go:175", #[⟨3, .data⟩, ⟨13, .data⟩], none⟩) (v := ?vwroom113) rfl (by kernel_rfl) (by kernel_rfl) (by kernel_rfl) (fun _ _ _ h => h) (Or.inl ⟨by rfl, ?ywroom113⟩) hk ?rwroom113
  case ywroom113 => (intro w hSw; (try dsimp only at hSw); go_simp; first | done | with_reducible rfl)
  simp only [Act.put, List.setIfInBounds_toArray, List.set_cons_zero, List.set_cons_succ]
  refine wpAnyH_done (by decide +kernel) ?_ _
  replace hk : wd.drew.cell? ⟨gl, 0, none⟩ = some (.pointer (some ⟨gd, 0, none⟩)) ∧ wd.drew.cell? ⟨gl, 2, none⟩ = some (.int .i64 (L.next : Int)) ∧ Dsk wd.drew gd own s := ⟨hk.1, hk.2.1, hk.2.2.drewN 1⟩
  replace HQ : Hid (wd.drew = w.drewN (1 + 1)) := by show _ = _; rw [HQ.out]; rfl
  have hw1 : IntKind.i64.wrap ((s.F.length : Int) - (L.next : Int)) = (s.F.length : Int) - (L.next : Int) := IntWalk.i64_in _ (by omega)
  have hw2 : IntKind.i64.wrap (((s.F.length : Int) - (L.next : Int)) * 64) = ((s.F.length : Int) - (L.next : Int)) * 64 := IntWalk.i64_in _ (by omega)
  go_wp2_with fail
  refine wp_region_held_drew (S := fun W => W.cell? ⟨gl, 0, none⟩ = some (.pointer (some ⟨gd, 0, none⟩)) ∧ W.cell? ⟨gl, 2, none⟩ = some (.int .i64 (L.next : Int)) ∧ Dsk W gd own s) (by kernel_rfl) hk (fun _ => ?_)
  generalize wd.drew = we at hk HQ ⊢
  refine wpAnyH_take (i := 0) (oi := ⟨some 19, .move (.tmp 0), 81, "wal.go:178", #[], none⟩) (v := ?vwroom31) rfl (by kernel_rfl) (by kernel_rfl) (by kernel_rfl) (fun _ _ _ h => h) (Or.inl ⟨by rfl, ?ywroom31⟩) hk ?rwroom31
  case ywroom31 => (intro w hSw; (try dsimp only at hSw); go_simp; first | done | with_reducible rfl)
  simp only [Act.put, List.setIfInBounds_toArray, List.set_cons_zero, List.set_cons_succ]
  refine wpAnyH_take (i := 1) (oi := ⟨some 20, .nilCheck (.tmp 19), 0, "wal.go:178", #[⟨0, .data⟩], none⟩) (v := ?vwroom32) rfl (by kernel_rfl) (by kernel_rfl) (by kernel_rfl) (fun _ _ _ h => h) (Or.inl ⟨by rfl, ?ywroom32⟩) hk ?rwroom32
  case ywroom32 => (intro w hSw; (try dsimp only at hSw); go_simp; first | done | with_reducible rfl)
  simp only [Act.put, List.setIfInBounds_toArray, List.set_cons_zero, List.set_cons_succ]
  refine wpAnyH_take (i := 2) (oi := ⟨some 21, .fieldAddr 121 (.tmp 20) 0, 0, "wal.go:178", #[⟨1, .data⟩], none⟩) (v := ?vwroom33) rfl (by kernel_rfl) (by kernel_rfl) (by kernel_rfl) (fun _ _ _ h => h) (Or.inl ⟨by rfl, ?ywroom33⟩) hk ?rwroom33
  case ywroom33 => (intro w hSw; (try dsimp only at hSw); go_simp; first | done | with_reducible rfl)
  simp only [Act.put, List.setIfInBounds_toArray, List.set_cons_zero, List.set_cons_succ]
  refine wpAnyH_take (i := 3) (oi := ⟨some 22, .load 25 (.tmp 21), 25, "wal.go:178", #[⟨2, .data⟩], none⟩) (v := ?vwroom34) rfl (by kernel_rfl) (by kernel_rfl) (by kernel_rfl) (fun _ _ _ h => h) (Or.inl ⟨by rfl, ?ywroom34⟩) hk ?rwroom34
  case ywroom34 => (intro w hSw; have hcw := hSw.1; clear hSw; go_simp; first | done | with_reducible rfl)
  simp only [Act.put, List.setIfInBounds_toArray, List.set_cons_zero, List.set_cons_succ]
  refine wpAnyH_take (i := 5) (oi := ⟨some 24, .move (.tmp 0), 81, "wal.go:178", #[], none⟩) (v := ?vwroom35) rfl (by kernel_rfl) (by kernel_rfl) (by kernel_rfl) (fun _ _ _ h => h) (Or.inl ⟨by rfl, ?ywroom35⟩) hk ?rwroom35
  case ywroom35 => (intro w hSw; (try dsimp only at hSw); go_simp; first | done | with_reducible rfl)
  simp only [Act.put, List.setIfInBounds_toArray, List.set_cons_zero, List.set_cons_succ]
  refine wpAnyH_take (i := 6) (oi := ⟨some 25, .nilCheck (.tmp 24), 0, "wal.go:178", #[⟨5, .data⟩], none⟩) (v := ?vwroom36) rfl (by kernel_rfl) (by kernel_rfl) (by kernel_rfl) (fun _ _ _ h => h) (Or.inl ⟨by rfl, ?ywroom36⟩) hk ?rwroom36
  case ywroom36 => (intro w hSw; (try dsimp only at hSw); go_simp; first | done | with_reducible rfl)
  simp only [Act.put, List.setIfInBounds_toArray, List.set_cons_zero, List.set_cons_succ]
  refine wpAnyH_take (i := 7) (oi := ⟨some 26, .fieldAddr 121 (.tmp 25) 2, 0, "wal.go:178", #[⟨6, .data⟩], none⟩) (v := ?vwroom37) rfl (by kernel_rfl) (by kernel_rfl) (by kernel_rfl) (fun _ _ _ h => h) (Or.inl ⟨by rfl, ?ywroom37⟩) hk ?rwroom37
  case ywroom37 => (intro w hSw; (try dsimp only at hSw); go_simp; first | done | with_reducible rfl)
  simp only [Act.put, List.setIfInBounds_toArray, List.set_cons_zero, List.set_cons_succ]
  refine wpAnyH_take (i := 8) (oi := ⟨some 27, .load 3 (.tmp 26), 3, "wal.go:178", #[⟨7, .data⟩], none⟩) (v := ?vwroom38) rfl (by kernel_rfl) (by kernel_rfl) (by kernel_rfl) (fun _ _ _ h => h) (Or.inl ⟨by rfl, ?ywroom38⟩) hk ?rwroom38
  case ywroom38 => (intro w hSw; have hcw := hSw.2.1; clear hSw; go_simp; first | done | with_reducible rfl)
  simp only [Act.put, List.setIfInBounds_toArray, List.set_cons_zero, List.set_cons_succ]
  refine wpAnyH_ready (rs := [4]) (by decide +kernel) (by simp) ?_
  refine AllReadyH.cons (o := ⟨some 23, .call { callee := .value (.func 57), args := #[.tmp 22], argTypes := #[25] }, 3, "wal.go:178", #[⟨3, .data⟩], none⟩) rfl (fun K hK => ?_) AllReadyH.nil
  go_simp
  refine (sectors_any gd own s _ hk.2.2).mono ?_
  rintro e1 w8 ⟨rfl, rfl⟩
  refine hK.out _ _ hk (fun _ => ?_)
  clear hK K
  try simp only [Act.put, List.setIfInBounds_toArray, List.set_cons_zero, List.set_cons_succ]
  refine wpAnyH_take (i := 9) (oi := ⟨some 28, .binOp .sub 3 (.tmp 23) (.tmp 27) 3, 3, "wal.go:178", #[⟨4, .data⟩, ⟨8, .data⟩], none⟩) (v := ?vwroom39) rfl (by kernel_rfl) (by kernel_rfl) (by kernel_rfl) (fun _ _ _ h => h) (Or.inl ⟨by rfl, ?ywroom39⟩) hk ?rwroom39
  case ywroom39 => (intro w hSw; (try dsimp only at hSw); go_simp; first | done | with_reducible rfl)
  simp only [Act.put, List.setIfInBounds_toArray, List.set_cons_zero, List.set_cons_succ]
  refine wpAnyH_take (i := 10) (oi := ⟨some 29, .binOp .mul 3 (.tmp 28) (.const (Value.int IntKind.i64 64)) 3, 3, "wal.go:178", #[⟨9, .data⟩], none⟩) (v := ?vwroom310) rfl (by kernel_rfl) (by kernel_rfl) (by kernel_rfl) (fun _ _ _ h => h) (Or.inl ⟨by rfl, ?ywroom310⟩) hk ?rwroom310
  case ywroom310 => (intro w hSw; (try dsimp only at hSw); go_simp; first | done | with_reducible rfl)
  simp only [Act.put, List.setIfInBounds_toArray, List.set_cons_zero, List.set_cons_succ]
  refine wpAnyH_take (i := 11) (oi := ⟨some 3, .assign (.tmp 29), 3, "wal.go:178", #[⟨10, .data⟩, ⟨4, .chain⟩, ⟨0, .phase⟩, ⟨1, .phase⟩, ⟨2, .phase⟩, ⟨3, .phase⟩, ⟨4, .phase⟩, ⟨5, .phase⟩, ⟨6, .phase⟩, ⟨7, .phase⟩, ⟨8, .phase⟩, ⟨9, .phase⟩, ⟨10, .phase⟩], none⟩) (v := ?vwroom311) rfl (by kernel_rfl) (by kernel_rfl) (by kernel_rfl) (fun _ _ _ h => h) (Or.inl ⟨by rfl, ?ywroom311⟩) hk ?rwroom311
  case ywroom311 => (intro w hSw; (try dsimp only at hSw); go_simp; first | done | with_reducible rfl)
  simp only [Act.put, List.setIfInBounds_toArray, List.set_cons_zero, List.set_cons_succ]
  refine wpAnyH_done (by decide +kernel) ?_ _
  clear hk
  go_wp2_with fail
  refine (size_any 0 _ (by decide)).mono ?_
  rintro e w' ⟨rfl, rfl⟩
  go_wp2
  go_ret
  exact ⟨ret_int HE.out.symm, _, HQ.out⟩
set_option maxRecDepth 100000 in
set_option maxHeartbeats 1000000 in
theorem room_any (gl gd : Nat) (own ownL : Nat → Prop) (s : DS) (L : LS) (w : World) (hD : Dsk w gd own s) (h : Lg w gl ownL gd L) (hn : L.next ≤ s.F.length) :
    Calls Tryz.prog 55 #[.pointer (some ⟨gl, 0, none⟩)] w fun e w' => e = .returned (.int .i64 (roomV s.F.length L.next)) ∧ ∃ q, w' = w.drewN q := by
  by_cases he : L.next = s.F.length
  · obtain ⟨vt, hR⟩ := h
    have hk : w.drew.cell? ⟨gl, 0, none⟩ = some (.pointer (some ⟨gd, 0, none⟩)) ∧ w.drew.cell? ⟨gl, 2, none⟩ = some (.int .i64 (L.next : Int)) ∧ Dsk w.drew gd own s := ⟨hR.c0, hR.c2, hD.drewN 1⟩
    have HQ : Hid (w.drew = w.drewN 1) := rfl
    clear hR hD
    have HE : Bx (roomV s.F.length L.next = -1) := ⟨by unfold roomV; rw [if_pos he]⟩
    have hb : ((L.next : Int) == (s.F.length : Int)) = true := by rw [he]; simp
    have hb2 : (L.next == s.F.length) = true := by rw [he]; simp
    clear he
    go_enter Tryz.func55, Tryz.ntmps55
    go_wp2_with fail
    refine wp_region_held_drew (S := fun W => W.cell? ⟨gl, 0, none⟩ = some (.pointer (some ⟨gd, 0, none⟩)) ∧ W.cell? ⟨gl, 2, none⟩ = some (.int .i64 (L.next : Int)) ∧ Dsk W gd own s) (by kernel_rfl) hk (fun _ => ?_)
    generalize w.drew = wd at hk HQ ⊢
    refine wpAnyH_take (i := 0) (oi := ⟨some 4, .move (.tmp 0), 81, "wal.go:175", #[], none⟩) (v := ?vwroom11) rfl (by kernel_rfl) (by kernel_rfl) (by kernel_rfl) (fun _ _ _ h => h) (Or.inl ⟨by rfl, ?ywroom11⟩) hk ?rwroom11
    case ywroom11 => (intro w hSw; (try dsimp only at hSw); go_simp; first | done | with_reducible rfl)
    simp only [Act.put, List.setIfInBounds_toArray, List.set_cons_zero, List.set_cons_succ]
    refine wpAnyH_ready (rs := [1]) (by decide +kernel) (by simp) ?_
    refine AllReadyH.cons (o := ⟨some 5, .call { callee := .value (.func 61), args := #[.tmp 4], argTypes := #[81] }, 4, "wal.go:175", #[⟨0, .data⟩], none⟩) rfl (fun K hK => ?_) AllReadyH.nil
    go_simp
    refine (lmade_yes gl gd _ hk.1).mono ?_
    rintro e1 w8 ⟨rfl, rfl⟩
    refine hK.out _ _ hk (fun _ => ?_)
    clear hK K
    try simp only [Act.put, List.setIfInBounds_toArray, List.set_cons_zero, List.set_cons_succ]
    refine wpAnyH_take (i := 2) (oi := ⟨some 6, .unOp UnOp.not 4 (.tmp 5), 4, "wal.go:175", #[⟨1, .data⟩], none⟩) (v := ?vwroom12) rfl (by kernel_rfl) (by kernel_rfl) (by kernel_rfl) (fun _ _ _ h => h) (Or.inl ⟨by rfl, ?ywroom12⟩) hk ?rwroom12
    case ywroom12 => (intro w hSw; (try dsimp only at hSw); go_simp; first | done | with_reducible rfl)
    simp only [Act.put, List.setIfInBounds_toArray, List.set_cons_zero, List.set_cons_succ]
    refine wpAnyH_take (i := 3) (oi := ⟨some 7, .move (.tmp 6), 4, "wal.go:175", #[⟨2, .data⟩, ⟨1, .chain⟩], none⟩) (v := ?vwroom13) rfl (by kernel_rfl) (by kernel_rfl) (by kernel_rfl) (fun _ _ _ h => h) (Or.inl ⟨by rfl, ?ywroom13⟩) hk ?rwroom13
    case ywroom13 => (intro w hSw; (try dsimp only at hSw); go_simp; first | done | with_reducible rfl)
    simp only [Act.put, List.setIfInBounds_toArray, List.set_cons_zero, List.set_cons_succ]
    refine wpAnyH_take (i := 4) (oi := ⟨some 8, .move (.tmp 0), 81, "wal.go:175", #[⟨3, .guard⟩], some (3, false)⟩) (v := ?vwroom14) rfl (by kernel_rfl) (by kernel_rfl) (by kernel_rfl) (fun _ _ _ h => h) (Or.inl ⟨by rfl, ?ywroom14⟩) hk ?rwroom14
    case ywroom14 => (intro w hSw; (try dsimp only at hSw); go_simp; first | done | with_reducible rfl)
    simp only [Act.put, List.setIfInBounds_toArray, List.set_cons_zero, List.set_cons_succ]
    refine wpAnyH_take (i := 5) (oi := ⟨some 9, .nilCheck (.tmp 8), 0, "wal.go:175", #[⟨4, .data⟩, ⟨3, .guard⟩], some (3, false)⟩) (v := ?vwroom15) rfl (by kernel_rfl) (by kernel_rfl) (by kernel_rfl) (fun _ _ _ h => h) (Or.inl ⟨by rfl, ?ywroom15⟩) hk ?rwroom15
    case ywroom15 => (intro w hSw; (try dsimp only at hSw); go_simp; first | done | with_reducible rfl)
    simp only [Act.put, List.setIfInBounds_toArray, List.set_cons_zero, List.set_cons_succ]
    refine wpAnyH_take (i := 6) (oi := ⟨some 10, .fieldAddr 121 (.tmp 9) 2, 0, "wal.go:175", #[⟨5, .data⟩, ⟨3, .guard⟩], some (3, false)⟩) (v := ?vwroom16) rfl (by kernel_rfl) (by kernel_rfl) (by kernel_rfl) (fun _ _ _ h => h) (Or.inl ⟨by rfl, ?ywroom16⟩) hk ?rwroom16
    case ywroom16 => (intro w hSw; (try dsimp only at hSw); go_simp; first | done | with_reducible rfl)
    simp only [Act.put, List.setIfInBounds_toArray, List.set_cons_zero, List.set_cons_succ]
    refine wpAnyH_take (i := 7) (oi := ⟨some 11, .load 3 (.tmp 10), 3, "wal.go:175", #[⟨6, .data⟩, ⟨3, .guard⟩], some (3, false)⟩) (v := ?vwroom17) rfl (by kernel_rfl) (by kernel_rfl) (by kernel_rfl) (fun _ _ _ h => h) (Or.inl ⟨by rfl, ?ywroom17⟩) hk ?rwroom17
    case ywroom17 => (intro w hSw; have hcw := hSw.2.1; clear hSw; go_simp; first | done | with_reducible rfl)
    simp only [Act.put, List.setIfInBounds_toArray, List.set_cons_zero, List.set_cons_succ]
    refine wpAnyH_take (i := 8) (oi := ⟨some 12, .move (.tmp 0), 81, "wal.go:175", #[⟨3, .guard⟩], some (3, false)⟩) (v := ?vwroom18) rfl (by kernel_rfl) (by kernel_rfl) (by kernel_rfl) (fun _ _ _ h => h) (Or.inl ⟨by rfl, ?ywroom18⟩) hk ?rwroom18
    case ywroom18 => (intro w hSw; (try dsimp only at hSw); go_simp; first | done | with_reducible rfl)
    simp only [Act.put, List.setIfInBounds_toArray, List.set_cons_zero, List.set_cons_succ]
    refine wpAnyH_take (i := 9) (oi := ⟨some 13, .nilCheck (.tmp 12), 0, "wal.go:175", #[⟨8, .data⟩, ⟨3, .guard⟩], some (3, false)⟩) (v := ?vwroom19) rfl (by kernel_rfl) (by kernel_rfl) (by kernel_rfl) (fun _ _ _ h => h) (Or.inl ⟨by rfl, ?ywroom19⟩) hk ?rwroom19
    case ywroom19 => (intro w hSw; (try dsimp only at hSw); go_simp; first | done | with_reducible rfl)
    simp only [Act.put, List.setIfInBounds_toArray, List.set_cons_zero, List.set_cons_succ]
    refine wpAnyH_take (i := 10) (oi := ⟨some 14, .fieldAddr 121 (.tmp 13) 0, 0, "wal.go:175", #[⟨9, .data⟩, ⟨3, .guard⟩], some (3, false)⟩) (v := ?vwroom110) rfl (by kernel_rfl) (by kernel_rfl) (by kernel_rfl) (fun _ _ _ h => h) (Or.inl ⟨by rfl, ?ywroom110⟩) hk ?rwroom110
    case ywroom110 => (intro w hSw; (try dsimp only at hSw); go_simp; first | done | with_reducible rfl)
    simp only [Act.put, List.setIfInBounds_toArray, List.set_cons_zero, List.set_cons_succ]
    refine wpAnyH_take (i := 11) (oi := ⟨some 15, .load 25 (.tmp 14), 25, "wal.go:175", #[⟨10, .data⟩, ⟨3, .guard⟩], some (3, false)⟩) (v := ?vwroom111) rfl (by kernel_rfl) (by kernel_rfl) (by kernel_rfl) (fun _ _ _ h => h) (Or.inl ⟨by rfl, ?ywroom111⟩) hk ?rwroom111
    case ywroom111 => (intro w hSw; have hcw := hSw.1; clear hSw; go_simp; first | done | with_reducible rfl)
    simp only [Act.put, List.setIfInBounds_toArray, List.set_cons_zero, List.set_cons_succ]
    refine wpAnyH_ready (rs := [12]) (by decide +kernel) (by simp) ?_
    refine AllReadyH.cons (o := ⟨some 16, .call { callee := .value (.func 57), args := #[.tmp 15], argTypes := #[25] }, 3, "wal.go:175", #[⟨11, .data⟩, ⟨3, .chain⟩, ⟨3, .guard⟩], some (3, false)⟩) rfl (fun K hK => ?_) AllReadyH.nil
    go_simp
    refine (sectors_any gd own s _ hk.2.2).mono ?_
    rintro e1 w8 ⟨rfl, rfl⟩
    refine hK.out _ _ hk (fun _ => ?_)
    clear hK K
    try simp only [Act.put, List.setIfInBounds_toArray, List.set_cons_zero, List.set_cons_succ]
    refine wpAnyH_take (i := 13) (oi := ⟨some 17, .binOp .eql 3 (.tmp 11) (.tmp 16) 3, 4, "wal.go:175", #[⟨7, .data⟩, ⟨12, .data⟩, ⟨3, .guard⟩], some (3, false)⟩) (v := ?vwroom112) rfl (by kernel_rfl) (by kernel_rfl) (by kernel_rfl) (fun _ _ _ h => h) (Or.inl ⟨by rfl, ?ywroom112⟩) hk ?rwroom112
    case ywroom112 => (intro w hSw; (try dsimp only at hSw); go_simp; first | done | with_reducible rfl)
    simp only [Act.put, List.setIfInBounds_toArray, List.set_cons_zero, List.set_cons_succ]
    refine wpAnyH_take (i := 14) (oi := ⟨some 18, .pick (.tmp 7) (.const (Value.bool true)) (.tmp 17), 4, "wal.go:175", #[⟨3, .data⟩, ⟨13, .data⟩], none⟩) (v := ?vwroom113) rfl (by kernel_rfl) (by kernel_rfl) (by kernel_rfl) (fun _ _ _ h => h) (Or.inl ⟨by rfl, ?ywroom113⟩) hk ?rwroom113
    case ywroom113 => (intro w hSw; (try dsimp only at hSw); go_simp; first | done | with_reducible rfl)
    simp only [Act.put, List.setIfInBounds_toArray, List.set_cons_zero, List.set_cons_succ]
    refine wpAnyH_done (by decide +kernel) ?_ _
    clear hk
    go_wp2
    go_ret
    exact ⟨ret_int HE.out.symm, 1, HQ.out⟩
  · by_cases hbig : 16384 < ((s.F.length : Int) - L.next) * 64 - 20
    · exact room_big gl gd own ownL s L w hD h hn he hbig
    · exact room_some gl gd own ownL s L w hD h hn he hbig
end Go.Proofs.YtjnjokbdoendkaaGreat
namespace Go.Proofs.YtjnjokbdoendkaaGreat
open Go.RowKit
set_option linter.unusedVariables false

set_option maxRecDepth 100000 in
theorem Tryz.info22 : (Tryz.prog.info? 46).map (fun i => (i.zero, i.size, i.bytes)) = some (some (.slice none 0 0), 1, 24) := by kernel_rfl
set_option maxRecDepth 100000 in
theorem cell_one_new (w : World) (v : Value) (T : TypeId) : ∀ j u, [v][j]? = some u → (w.alloc (.cells #[v] T)).cell? ((⟨w.heap.size, 0, none⟩ : Addr).add j) = some u := World.news_of_block (heap_alloc_new w (.cells #[v] T))
set_option maxRecDepth 100000 in
theorem own_ge {w : World} {base n c : Nat} {a : Option Addr} {xs : List Value} (h : w.ownsRow base 5 1 (.slice a n c) n xs) : ∀ p, a = some p → base ≤ p.block ∧ p.block < w.heap.size := fun p hp => h.lt p.block (by rw [hp]; rfl)
set_option maxRecDepth 100000 in
theorem take_one (T : List (List Int)) (k : Nat) (h : k < T.length) : T.take (k + 1) = T.take k ++ [T.getD k []] := by
  rw [List.take_succ_eq_append_getElem h, List.getD_eq_getElem?_getD, List.getElem?_eq_getElem h]; rfl
set_option maxRecDepth 100000 in
theorem TL.lst {w : World} {own : Nat → Prop} {v : Value} {L M : List (List Int)} (h : TL w own v L) (e : L = M) : TL w own v M := by rw [← e]; exact h
/-- an append to an own list of texts: what it asks, what it gives -/
structure TA (w : World) (own : Nat → Prop) (v : Value) (L : List (List Int)) (xs : List Value) : Prop where
  tl : TL w own v L
  hx : ∀ i, i < L.length → ∃ ai li ci, xs[i]? = some (.slice ai li ci) ∧ Bts w ai li ci (L.getD i []) ∧ (0 < li → ∀ p, ai = some p → own p.block ∧ v.ownBlock ≠ some p.block)
  hxl : xs.length = L.length
set_option maxRecDepth 100000 in
theorem TL.open {w : World} {own : Nat → Prop} {v : Value} {L : List (List Int)} (h : TL w own v L) : ∃ xs, w.ownsRow 0 46 1 v L.length xs ∧ Bx (TA w own v L xs) := by
  obtain ⟨xs, h1, h2⟩ := h.row
  exact ⟨xs, h1, ⟨h, h2, by have := h1.1; omega⟩⟩
set_option maxRecDepth 100000 in
theorem TA.done {w w' : World} {own own2 : Nat → Prop} {v : Value} {L : List (List Int)} {xs : List Value} {a : Option Addr} {n c g cap m : Nat} {l : List Int} (h : TA w own v L xs) (hm : m = L.length) (hbt : Bts w a n c l) (hne : 0 < n → ∀ p, a = some p → own2 p.block ∧ v.ownBlock ≠ some p.block)
    (ho : w'.ownsRow 0 46 1 (.slice (some ⟨g, 0, none⟩) (m + 1) cap) (m + 1) (xs ++ [.slice a n c])) (hg : (w.alloc (.cells #[.slice a n c] 46)).grownBy w' v.ownBlock) (hl : v.ownBlock = some g ∨ g = (w.alloc (.cells #[.slice a n c] 46)).heap.size)
    (ho2 : ∀ k, own k → own2 k) (hg2 : own2 g) : TL w' own2 (.slice (some ⟨g, 0, none⟩) (m + 1) cap) (L ++ [l]) := by
  subst hm
  exact TL.app h.tl h.hx h.hxl hbt hne rfl ho hg hl ho2 hg2
set_option maxRecDepth 100000 in
set_option maxHeartbeats 1000000 in
theorem texts_any (gl gd : Nat) (own : Nat → Prop) (L : LS) (w : World) (h : Lg w gl own gd L) :
    Calls Tryz.prog 35 #[.pointer (some ⟨gl, 0, none⟩)] w fun e w' => ∃ v, e = .returned v ∧ TL w' (fun k => w.heap.size ≤ k ∧ k < w'.heap.size) v L.T ∧ Below w.heap.size w w' := by
  obtain ⟨vt, hR⟩ := h
  have c1 := hR.c1
  have H0 : Bx _ := ⟨hR.c0⟩
  have HTO : Bx (TOk L.T) := ⟨hR.ok⟩
  have hTn : L.T.length ≤ 4096 := Nat.le_trans hR.tn hR.n2
  obtain ⟨a, c, rfl, hTx⟩ := hR.tl.txs
  have HTX : Bx (Txs w a L.T.length c L.T) := ⟨hTx⟩
  have hcm := hTx.cap_le
  have hcl := hTx.le_cap
  unfold maxLen at hcm
  clear hR hTx
  obtain ⟨N, hN⟩ : ∃ N, N = w.heap.size := ⟨_, rfl⟩
  have HN : Hid (N = w.heap.size) := hN
  have hst : TL w (fun k => N ≤ k) (.slice none 0 0) (L.T.take 0) ∧ Below N w w := ⟨TL.nil _ _, Below.refl _ _⟩
  clear hN
  obtain ⟨n, HNL⟩ : ∃ n, Bx (n = L.T.length) := ⟨_, ⟨rfl⟩⟩
  rw [← HNL.out] at c1 HTX hTn hcl
  go_enter Tryz.func35, Tryz.ntmps35
  go_wp2_with fail
  refine (lmade_yes gl gd _ H0.out).mono ?_
  rintro e w' ⟨rfl, rfl⟩
  go_wp2
  go_loopw [3, 14] (fun v i wr => ∃ k : Nat, k ≤ n ∧ i = .int .i64 k ∧ TL wr (fun k => N ≤ k) v (L.T.take k) ∧ Below N w wr) (fun _ i _ => n - (intOf i).toNat)
  case atStart => exact ⟨0, Nat.zero_le _, rfl, hst⟩
  case round =>
    clear hst
    obtain ⟨k, hk, rfl, hT, hlow⟩ := hrel
    obtain ⟨vAll, hvAll⟩ : ∃ vAll, vAll = u3 := ⟨_, rfl⟩
    subst hvAll
    have hbw : Below w.heap.size w wr := by rw [← HN.out]; exact hlow
    by_cases hlt : k < n
    · have hkI : (k : Int) < (n : Int) := by omega
      obtain ⟨b, off, rfl, _, hc⟩ := (HTX.out.below hbw).spot (by omega)
      obtain ⟨ai, li, ci, hcell, hbt⟩ := hc k hlt
      have hli : li ≤ 16384 := by
        rw [← hbt.len_eq, List.getD_eq_getElem?_getD, List.getElem?_eq_getElem (by rw [← HNL.out]; exact hlt)]
        exact (HTO.out _ (List.getElem_mem _)).1
      have HMO : Bx (L.T.take (k + 1) = L.T.take k ++ [L.T.getD k []]) := ⟨take_one _ _ (by rw [← HNL.out]; exact hlt)⟩
      have HLL : Bx (k = (L.T.take k).length) := ⟨by rw [List.length_take, ← HNL.out]; omega⟩
      generalize L.T.getD k [] = y at hbt HMO
      clear hc
      go_wp2_with fail
      refine (clone_any ai li ci y _ hbt (by omega)).mono ?_
      rintro e w3 ⟨v3, rfl, hown3, hb3⟩
      obtain ⟨a3, c3, rfl, hm3⟩ := Bts.of_owns hown3 hbt.byt
      have HFAR : Bx (0 < li → ∀ p, a3 = some p → N ≤ p.block ∧ vAll.ownBlock ≠ some p.block) := ⟨fun hp p e => by
        have h1 := own_ge hown3 p e
        refine ⟨by have := hbw.size; rw [HN.out]; omega, fun e2 => ?_⟩
        obtain ⟨xs, ho, _⟩ := hT.row
        have := (ho.lt p.block e2).2
        omega⟩
      have hlow3 : Below N w w3 := hlow.trans (hb3.mono (by rw [HN.out]; exact hbw.size))
      have hs3 : N ≤ w3.heap.size := by have := hb3.size; have := hbw.size; rw [HN.out]; omega
      have hvb : ∀ j, vAll.ownBlock = some j → N ≤ j := fun j hj => hT.ob j hj
      obtain ⟨xs, hown, HTA⟩ := (hT.below hb3).open
      rw [← HLL.out] at hown
      have HM3 : Bx _ := ⟨hm3⟩
      have HLOW : Bx _ := ⟨hlow3⟩
      have HVB : Bx _ := ⟨hvb⟩
      obtain ⟨i0, hi, hz0, hz1, hz2⟩ := info_parts Tryz.info22
      clear hT hown3 hb3 hbt hcell hm3 hbw hlow hlow3 hvb
      go_wp2_with (at_builtin; refine wpList_append_lies _ rfl (.tmp 18) (.tmp 21) 57 rfl 0 46 i0 (.slice none 0 0) 1 24 Tryz.underlying57 hi hz0 hz1 hz2 rfl (by decide) _ k xs rfl (hown.alloc _) ⟨w3.heap.size, 0, none⟩ 1 1 [.slice a3 li c3] rfl rfl (cell_one_new _ _ _) (by simp [Value.oneCell']) (by decide) (by unfold maxLen; omega) (by omega) (Nat.zero_le _) _ rfl ?_; intro g4 cap4 w4 hown4 hgr4 hl4 _)
      have hbig : (w3.alloc (.cells #[.slice a3 li c3] 46)).heap.size = w3.heap.size + 1 := by simp
      have hg4 : N ≤ g4 := by
        rcases hl4 with h1 | h1
        · exact HVB.out g4 h1
        · rw [h1, hbig]; omega
      have hT4 := HTA.out.done HLL.out HM3.out HFAR.out hown4 hgr4 hl4 (fun _ h => h) hg4
      have hK4 : Below N w w4 := (HLOW.out.alloc hs3 _).grown hgr4 (by rw [hbig]; omega) HVB.out
      rw [← HMO.out] at hT4
      clear hown4 hgr4 hl4 hown hi hz0 hz1 hz2 hbig hg4
      go_roundw
      case rel => exact ⟨k + 1, by omega, by go_num, hT4, hK4⟩
      case measure => simp [intOf]; omega
    · have hkn : k = n := by omega
      have hT9 := hT.lst (M := L.T) (by rw [hkn, HNL.out]; exact List.take_length)
      clear hT
      have hT8 : TL wr (fun k => w.heap.size ≤ k ∧ k < wr.heap.size) vAll L.T := hT9.keep (fun _ _ _ => rfl) (Nat.le_refl _) (fun k hk ho => ⟨by rw [← HN.out]; exact ho, hk⟩)
      clear hT9 hkn
      go_wp2
      go_ret
      exact ⟨_, rfl, hT8, hbw⟩
end Go.Proofs.YtjnjokbdoendkaaGreat
