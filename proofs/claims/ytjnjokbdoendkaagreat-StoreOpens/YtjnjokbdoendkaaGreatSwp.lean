/- Append, walked. Append that comes to a write, walked; and all of it. -/
import Derived.Test.YtjnjokbdoendkaaGreatSwb
import Derived.Deep.CutRange
namespace Go.Proofs.YtjnjokbdoendkaaGreat
open Go.RowKit
set_option linter.unusedVariables false

set_option maxRecDepth 100000 in
theorem LgR.below {w w' : World} {gl : Nat} {own : Nat → Prop} {gd : Nat} {L : LS} {vt : Value} (h : LgR w gl own gd L vt) (hb : Below w.heap.size w w') : LgR w' gl own gd L vt := h.keep (fun k hk => hb.block k (h.lt k hk)) hb.size
set_option maxRecDepth 100000 in
theorem ptE_seq {n : Nat} {k : Nat} : ptE ((k : Int) + 1) n = if 16384 < n then 5 else 0 := by unfold ptE; rw [if_neg (by omega)]
set_option maxRecDepth 100000 in
set_option maxHeartbeats 1000000 in
theorem append_big (gl gd : Nat) (ownD ownL : Nat → Prop) (s : DS) (L : LS) (a : Option Addr) (len cap : Nat) (b : List Int) (w : World) (hD : Dsk w gd ownD s) (hLg : Lg w gl ownL gd L) (hbt : Bts w a len cap b) (hbig : 16384 < len) :
    Calls Tryz.prog 45 #[.pointer (some ⟨gl, 0, none⟩), .slice a len cap] w fun e w' => e = .returned (.int .i64 5) ∧ Below w.heap.size w w' := by
  obtain ⟨vt, hR⟩ := hLg
  obtain ⟨av, cv, rfl, _⟩ := hR.tl.form
  have c1 := hR.c1
  have H0 : Bx _ := ⟨hR.c0⟩
  have HR : Bx (LgR w gl ownL gd L (.slice av L.T.length cv)) := ⟨hR⟩
  have hTl : L.T.length ≤ 4096 := Nat.le_trans hR.tn hR.n2
  have hn2 := hR.n2
  have hbl := hbt.len_eq
  have HBT : Bx (Bts w a len cap b) := ⟨hbt⟩
  have HDK : Bx (Dsk w gd ownD s) := ⟨hD⟩
  have hdn2 := hD.ok.n2
  clear hR hbt hD
  go_enter Tryz.func45, Tryz.ntmps45
  go_wp2_with fail
  refine (lmade_yes gl gd _ H0.out).mono ?_
  rintro e w' ⟨rfl, rfl⟩
  go_wp2_with fail
  refine (number_any _ _ _ _ hTl).mono ?_
  rintro e w' ⟨rfl, rfl⟩
  go_wp2_with fail
  refine (put8_any ((L.T.length : Int) + 1) a len cap b _ (by omega) (by omega) HBT.out).mono ?_
  rintro e w3 ⟨v3, rfl, hown3, hb3⟩
  clear c1 H0
  rw [ptE_seq, hbl]
  rw [if_pos hbig]
  clear hown3
  go_wp2
  go_ret
  exact ⟨rfl, hb3⟩
set_option maxRecDepth 100000 in
set_option maxHeartbeats 1000000 in
theorem append_full (gl gd : Nat) (ownD ownL : Nat → Prop) (s : DS) (L : LS) (a : Option Addr) (len cap : Nat) (b : List Int) (w : World) (hD : Dsk w gd ownD s) (hLg : Lg w gl ownL gd L) (hbt : Bts w a len cap b) (hbig : ¬ 16384 < len) (hfull : s.F.length < L.next + ns (20 + len)) :
    Calls Tryz.prog 45 #[.pointer (some ⟨gl, 0, none⟩), .slice a len cap] w fun e w' => e = .returned (.int .i64 11) ∧ Below w.heap.size w w' := by
  obtain ⟨vt, hR⟩ := hLg
  obtain ⟨av, cv, rfl, _⟩ := hR.tl.form
  have c1 := hR.c1
  have H0 : Bx _ := ⟨hR.c0⟩
  have HR : Bx (LgR w gl ownL gd L (.slice av L.T.length cv)) := ⟨hR⟩
  have hTl : L.T.length ≤ 4096 := Nat.le_trans hR.tn hR.n2
  have hn2 := hR.n2
  have hbl := hbt.len_eq
  have HBT : Bx (Bts w a len cap b) := ⟨hbt⟩
  have HDK : Bx (Dsk w gd ownD s) := ⟨hD⟩
  have hdn2 := hD.ok.n2
  clear hR hbt hD
  go_enter Tryz.func45, Tryz.ntmps45
  go_wp2_with fail
  refine (lmade_yes gl gd _ H0.out).mono ?_
  rintro e w' ⟨rfl, rfl⟩
  go_wp2_with fail
  refine (number_any _ _ _ _ hTl).mono ?_
  rintro e w' ⟨rfl, rfl⟩
  go_wp2_with fail
  refine (put8_any ((L.T.length : Int) + 1) a len cap b _ (by omega) (by omega) HBT.out).mono ?_
  rintro e w3 ⟨v3, rfl, hown3, hb3⟩
  clear c1 H0
  rw [ptE_seq, hbl]
  rw [if_neg hbig]
  have hpl : ptL ((L.T.length : Int) + 1) b = frmL ((L.T.length : Int) + 1) b := ptL_ok (by rw [ptE_seq, hbl, if_neg hbig])
  rw [hpl, frmL_len, hbl] at hown3
  obtain ⟨a3, c3, rfl, hm3⟩ := Bts.of_owns hown3 (frmL_byt _ _ HBT.out.byt)
  have HM3 : Bx _ := ⟨hm3⟩
  have HO3 : Bx _ := ⟨hown3⟩
  have HB3 : Bx (Below w.heap.size w w3) := ⟨hb3⟩
  have hR3 := HR.out.below hb3
  have hk : w3.drew.cell? ⟨gl, 0, none⟩ = some (.pointer (some ⟨gd, 0, none⟩)) ∧ w3.drew.cell? ⟨gl, 2, none⟩ = some (.int .i64 (L.next : Int)) ∧ Dsk w3.drew gd ownD s := ⟨hR3.c0, hR3.c2, (HDK.out.below hb3).drewN 1⟩
  obtain ⟨fl, HFL⟩ : ∃ fl, Bx (fl = 20 + len) := ⟨_, ⟨rfl⟩⟩
  have hfl : fl ≤ 20000 := by rw [HFL.out]; omega
  rw [← HFL.out] at HM3 HO3 hm3 ⊢
  have hnsb : ns fl ≤ 1000 := by unfold ns; omega
  have hw1 : IntKind.i64.wrap ((L.next : Int) + ((ns fl : Nat) : Int)) = (L.next : Int) + ((ns fl : Nat) : Int) := IntWalk.i64_in _ (by omega)
  clear hown3 hm3 hb3 hR3 hpl
  replace HM3 : Bx (Bts w3.drew a3 fl c3 (frmL ((L.T.length : Int) + 1) b)) := ⟨HM3.out.drewN 1⟩
  replace HB3 : Bx (Below w.heap.size w w3.drew) := ⟨HB3.out.drew⟩
  rw [← HFL.out] at hfull
  have g1 : (s.F.length : Int) < (L.next : Int) + ((ns fl : Nat) : Int) := by omega
  go_wp2_with fail
  refine wp_region_held_drew (S := fun W => W.cell? ⟨gl, 0, none⟩ = some (.pointer (some ⟨gd, 0, none⟩)) ∧ W.cell? ⟨gl, 2, none⟩ = some (.int .i64 (L.next : Int)) ∧ Dsk W gd ownD s) (by kernel_rfl) hk (fun _ => ?_)
  generalize w3.drew = wd at hk HB3 ⊢
  refine wpAnyH_take (i := 0) (oi := ⟨some 24, .move (.tmp 0), 81, "wal.go:110", #[], none⟩) (v := ?vwap61) rfl (by kernel_rfl) (by kernel_rfl) (by kernel_rfl) (fun _ _ _ h => h) (Or.inl ⟨by rfl, ?ywap61⟩) hk ?rwap61
  case ywap61 => (intro w hSw; (try dsimp only at hSw); go_simp; first | done | with_reducible rfl)
  simp only [Act.put, List.setIfInBounds_toArray, List.set_cons_zero, List.set_cons_succ]
  refine wpAnyH_take (i := 1) (oi := ⟨some 25, .nilCheck (.tmp 24), 0, "wal.go:110", #[⟨0, .data⟩], none⟩) (v := ?vwap62) rfl (by kernel_rfl) (by kernel_rfl) (by kernel_rfl) (fun _ _ _ h => h) (Or.inl ⟨by rfl, ?ywap62⟩) hk ?rwap62
  case ywap62 => (intro w hSw; (try dsimp only at hSw); go_simp; first | done | with_reducible rfl)
  simp only [Act.put, List.setIfInBounds_toArray, List.set_cons_zero, List.set_cons_succ]
  refine wpAnyH_take (i := 2) (oi := ⟨some 26, .fieldAddr 121 (.tmp 25) 2, 0, "wal.go:110", #[⟨1, .data⟩], none⟩) (v := ?vwap63) rfl (by kernel_rfl) (by kernel_rfl) (by kernel_rfl) (fun _ _ _ h => h) (Or.inl ⟨by rfl, ?ywap63⟩) hk ?rwap63
  case ywap63 => (intro w hSw; (try dsimp only at hSw); go_simp; first | done | with_reducible rfl)
  simp only [Act.put, List.setIfInBounds_toArray, List.set_cons_zero, List.set_cons_succ]
  refine wpAnyH_take (i := 3) (oi := ⟨some 27, .load 3 (.tmp 26), 3, "wal.go:110", #[⟨2, .data⟩], none⟩) (v := ?vwap64) rfl (by kernel_rfl) (by kernel_rfl) (by kernel_rfl) (fun _ _ _ h => h) (Or.inl ⟨by rfl, ?ywap64⟩) hk ?rwap64
  case ywap64 => (intro w hSw; have hcw := hSw.2.1; clear hSw; go_simp; first | done | with_reducible rfl)
  simp only [Act.put, List.setIfInBounds_toArray, List.set_cons_zero, List.set_cons_succ]
  refine wpAnyH_take (i := 4) (oi := ⟨some 28, .move (.tmp 5), 46, "wal.go:110", #[], none⟩) (v := ?vwap65) rfl (by kernel_rfl) (by kernel_rfl) (by kernel_rfl) (fun _ _ _ h => h) (Or.inl ⟨by rfl, ?ywap65⟩) hk ?rwap65
  case ywap65 => (intro w hSw; (try dsimp only at hSw); go_simp; first | done | with_reducible rfl)
  simp only [Act.put, List.setIfInBounds_toArray, List.set_cons_zero, List.set_cons_succ]
  refine wpAnyH_take (i := 5) (oi := ⟨some 29, .call { callee := .builtin Builtin.len, args := #[.tmp 28], argTypes := #[46] }, 3, "wal.go:110", #[⟨4, .data⟩], none⟩) (v := ?vwap66) rfl (by kernel_rfl) (by kernel_rfl) (by kernel_rfl) (fun _ _ _ h => h) (Or.inl ⟨by rfl, ?ywap66⟩) hk ?rwap66
  case ywap66 => (intro w hSw; (try dsimp only at hSw); go_simp; first | done | with_reducible rfl)
  simp only [Act.put, List.setIfInBounds_toArray, List.set_cons_zero, List.set_cons_succ]
  refine wpAnyH_take (i := 8) (oi := ⟨some 32, .move (.tmp 0), 81, "wal.go:110", #[], none⟩) (v := ?vwap67) rfl (by kernel_rfl) (by kernel_rfl) (by kernel_rfl) (fun _ _ _ h => h) (Or.inl ⟨by rfl, ?ywap67⟩) hk ?rwap67
  case ywap67 => (intro w hSw; (try dsimp only at hSw); go_simp; first | done | with_reducible rfl)
  simp only [Act.put, List.setIfInBounds_toArray, List.set_cons_zero, List.set_cons_succ]
  refine wpAnyH_take (i := 9) (oi := ⟨some 33, .nilCheck (.tmp 32), 0, "wal.go:110", #[⟨8, .data⟩], none⟩) (v := ?vwap68) rfl (by kernel_rfl) (by kernel_rfl) (by kernel_rfl) (fun _ _ _ h => h) (Or.inl ⟨by rfl, ?ywap68⟩) hk ?rwap68
  case ywap68 => (intro w hSw; (try dsimp only at hSw); go_simp; first | done | with_reducible rfl)
  simp only [Act.put, List.setIfInBounds_toArray, List.set_cons_zero, List.set_cons_succ]
  refine wpAnyH_take (i := 10) (oi := ⟨some 34, .fieldAddr 121 (.tmp 33) 0, 0, "wal.go:110", #[⟨9, .data⟩], none⟩) (v := ?vwap69) rfl (by kernel_rfl) (by kernel_rfl) (by kernel_rfl) (fun _ _ _ h => h) (Or.inl ⟨by rfl, ?ywap69⟩) hk ?rwap69
  case ywap69 => (intro w hSw; (try dsimp only at hSw); go_simp; first | done | with_reducible rfl)
  simp only [Act.put, List.setIfInBounds_toArray, List.set_cons_zero, List.set_cons_succ]
  refine wpAnyH_take (i := 11) (oi := ⟨some 35, .load 25 (.tmp 34), 25, "wal.go:110", #[⟨10, .data⟩], none⟩) (v := ?vwap610) rfl (by kernel_rfl) (by kernel_rfl) (by kernel_rfl) (fun _ _ _ h => h) (Or.inl ⟨by rfl, ?ywap610⟩) hk ?rwap610
  case ywap610 => (intro w hSw; have hcw := hSw.1; clear hSw; go_simp; first | done | with_reducible rfl)
  simp only [Act.put, List.setIfInBounds_toArray, List.set_cons_zero, List.set_cons_succ]
  refine wpAnyH_ready (rs := [6]) (by decide +kernel) (by simp) ?_
  refine AllReadyH.cons (o := ⟨some 30, .call { callee := .value (.func 77), args := #[.tmp 29], argTypes := #[3] }, 3, "wal.go:110", #[⟨5, .data⟩], none⟩) rfl (fun K hK => ?_) AllReadyH.nil
  go_simp
  refine (wsec_any fl _ (by omega)).mono ?_
  rintro e1 w8 ⟨rfl, rfl⟩
  refine hK.out _ _ hk (fun _ => ?_)
  clear hK K
  try simp only [Act.put, List.setIfInBounds_toArray, List.set_cons_zero, List.set_cons_succ]
  refine wpAnyH_take (i := 7) (oi := ⟨some 31, .binOp .add 3 (.tmp 27) (.tmp 30) 3, 3, "wal.go:110", #[⟨3, .data⟩, ⟨6, .data⟩], none⟩) (v := ?vwap611) rfl (by kernel_rfl) (by kernel_rfl) (by kernel_rfl) (fun _ _ _ h => h) (Or.inl ⟨by rfl, ?ywap611⟩) hk ?rwap611
  case ywap611 => (intro w hSw; (try dsimp only at hSw); go_simp; first | done | with_reducible rfl)
  simp only [Act.put, List.setIfInBounds_toArray, List.set_cons_zero, List.set_cons_succ]
  refine wpAnyH_ready (rs := [12]) (by decide +kernel) (by simp) ?_
  refine AllReadyH.cons (o := ⟨some 36, .call { callee := .value (.func 57), args := #[.tmp 35], argTypes := #[25] }, 3, "wal.go:110", #[⟨11, .data⟩, ⟨6, .chain⟩], none⟩) rfl (fun K hK => ?_) AllReadyH.nil
  go_simp
  refine (sectors_any gd ownD s _ hk.2.2).mono ?_
  rintro e1 w8 ⟨rfl, rfl⟩
  refine hK.out _ _ hk (fun _ => ?_)
  clear hK K
  try simp only [Act.put, List.setIfInBounds_toArray, List.set_cons_zero, List.set_cons_succ]
  refine wpAnyH_take (i := 13) (oi := ⟨some 37, .binOp .gtr 3 (.tmp 31) (.tmp 36) 3, 4, "wal.go:110", #[⟨7, .data⟩, ⟨12, .data⟩], none⟩) (v := ?vwap612) rfl (by kernel_rfl) (by kernel_rfl) (by kernel_rfl) (fun _ _ _ h => h) (Or.inl ⟨by rfl, ?ywap612⟩) hk ?rwap612
  case ywap612 => (intro w hSw; (try dsimp only at hSw); go_simp; first | done | with_reducible rfl)
  simp only [Act.put, List.setIfInBounds_toArray, List.set_cons_zero, List.set_cons_succ]
  refine wpAnyH_done (by decide +kernel) ?_ _
  clear hk
  go_wp2
  go_ret
  exact ⟨rfl, HB3.out⟩
set_option maxRecDepth 100000 in
set_option maxHeartbeats 1000000 in
theorem append_failed (gl gd : Nat) (ownD ownL : Nat → Prop) (s : DS) (L : LS) (a : Option Addr) (len cap : Nat) (b : List Int) (w : World) (hD : Dsk w gd ownD s) (hLg : Lg w gl ownL gd L) (hbt : Bts w a len cap b) (hbig : ¬ 16384 < len) (hfull : ¬ s.F.length < L.next + ns (20 + len)) (hfd : L.failed = true) :
    Calls Tryz.prog 45 #[.pointer (some ⟨gl, 0, none⟩), .slice a len cap] w fun e w' => e = .returned (.int .i64 14) ∧ Below w.heap.size w w' := by
  obtain ⟨vt, hR⟩ := hLg
  obtain ⟨av, cv, rfl, _⟩ := hR.tl.form
  have c1 := hR.c1
  have H0 : Bx _ := ⟨hR.c0⟩
  have HR : Bx (LgR w gl ownL gd L (.slice av L.T.length cv)) := ⟨hR⟩
  have hTl : L.T.length ≤ 4096 := Nat.le_trans hR.tn hR.n2
  have hn2 := hR.n2
  have hbl := hbt.len_eq
  have HBT : Bx (Bts w a len cap b) := ⟨hbt⟩
  have HDK : Bx (Dsk w gd ownD s) := ⟨hD⟩
  have hdn2 := hD.ok.n2
  clear hR hbt hD
  go_enter Tryz.func45, Tryz.ntmps45
  go_wp2_with fail
  refine (lmade_yes gl gd _ H0.out).mono ?_
  rintro e w' ⟨rfl, rfl⟩
  go_wp2_with fail
  refine (number_any _ _ _ _ hTl).mono ?_
  rintro e w' ⟨rfl, rfl⟩
  go_wp2_with fail
  refine (put8_any ((L.T.length : Int) + 1) a len cap b _ (by omega) (by omega) HBT.out).mono ?_
  rintro e w3 ⟨v3, rfl, hown3, hb3⟩
  clear c1 H0
  rw [ptE_seq, hbl]
  rw [if_neg hbig]
  have hpl : ptL ((L.T.length : Int) + 1) b = frmL ((L.T.length : Int) + 1) b := ptL_ok (by rw [ptE_seq, hbl, if_neg hbig])
  rw [hpl, frmL_len, hbl] at hown3
  obtain ⟨a3, c3, rfl, hm3⟩ := Bts.of_owns hown3 (frmL_byt _ _ HBT.out.byt)
  have HM3 : Bx _ := ⟨hm3⟩
  have HO3 : Bx _ := ⟨hown3⟩
  have HB3 : Bx (Below w.heap.size w w3) := ⟨hb3⟩
  have hR3 := HR.out.below hb3
  have hk : w3.drew.cell? ⟨gl, 0, none⟩ = some (.pointer (some ⟨gd, 0, none⟩)) ∧ w3.drew.cell? ⟨gl, 2, none⟩ = some (.int .i64 (L.next : Int)) ∧ Dsk w3.drew gd ownD s := ⟨hR3.c0, hR3.c2, (HDK.out.below hb3).drewN 1⟩
  obtain ⟨fl, HFL⟩ : ∃ fl, Bx (fl = 20 + len) := ⟨_, ⟨rfl⟩⟩
  have hfl : fl ≤ 20000 := by rw [HFL.out]; omega
  rw [← HFL.out] at HM3 HO3 hm3 ⊢
  have hnsb : ns fl ≤ 1000 := by unfold ns; omega
  have hw1 : IntKind.i64.wrap ((L.next : Int) + ((ns fl : Nat) : Int)) = (L.next : Int) + ((ns fl : Nat) : Int) := IntWalk.i64_in _ (by omega)
  clear hown3 hm3 hb3 hR3 hpl
  replace HM3 : Bx (Bts w3.drew a3 fl c3 (frmL ((L.T.length : Int) + 1) b)) := ⟨HM3.out.drewN 1⟩
  replace HB3 : Bx (Below w.heap.size w w3.drew) := ⟨HB3.out.drew⟩
  rw [← HFL.out] at hfull
  have g1 : ¬ (s.F.length : Int) < (L.next : Int) + ((ns fl : Nat) : Int) := by omega
  go_wp2_with fail
  refine wp_region_held_drew (S := fun W => W.cell? ⟨gl, 0, none⟩ = some (.pointer (some ⟨gd, 0, none⟩)) ∧ W.cell? ⟨gl, 2, none⟩ = some (.int .i64 (L.next : Int)) ∧ Dsk W gd ownD s) (by kernel_rfl) hk (fun _ => ?_)
  generalize w3.drew = wd at hk HB3 ⊢
  refine wpAnyH_take (i := 0) (oi := ⟨some 24, .move (.tmp 0), 81, "wal.go:110", #[], none⟩) (v := ?vwap61) rfl (by kernel_rfl) (by kernel_rfl) (by kernel_rfl) (fun _ _ _ h => h) (Or.inl ⟨by rfl, ?ywap61⟩) hk ?rwap61
  case ywap61 => (intro w hSw; (try dsimp only at hSw); go_simp; first | done | with_reducible rfl)
  simp only [Act.put, List.setIfInBounds_toArray, List.set_cons_zero, List.set_cons_succ]
  refine wpAnyH_take (i := 1) (oi := ⟨some 25, .nilCheck (.tmp 24), 0, "wal.go:110", #[⟨0, .data⟩], none⟩) (v := ?vwap62) rfl (by kernel_rfl) (by kernel_rfl) (by kernel_rfl) (fun _ _ _ h => h) (Or.inl ⟨by rfl, ?ywap62⟩) hk ?rwap62
  case ywap62 => (intro w hSw; (try dsimp only at hSw); go_simp; first | done | with_reducible rfl)
  simp only [Act.put, List.setIfInBounds_toArray, List.set_cons_zero, List.set_cons_succ]
  refine wpAnyH_take (i := 2) (oi := ⟨some 26, .fieldAddr 121 (.tmp 25) 2, 0, "wal.go:110", #[⟨1, .data⟩], none⟩) (v := ?vwap63) rfl (by kernel_rfl) (by kernel_rfl) (by kernel_rfl) (fun _ _ _ h => h) (Or.inl ⟨by rfl, ?ywap63⟩) hk ?rwap63
  case ywap63 => (intro w hSw; (try dsimp only at hSw); go_simp; first | done | with_reducible rfl)
  simp only [Act.put, List.setIfInBounds_toArray, List.set_cons_zero, List.set_cons_succ]
  refine wpAnyH_take (i := 3) (oi := ⟨some 27, .load 3 (.tmp 26), 3, "wal.go:110", #[⟨2, .data⟩], none⟩) (v := ?vwap64) rfl (by kernel_rfl) (by kernel_rfl) (by kernel_rfl) (fun _ _ _ h => h) (Or.inl ⟨by rfl, ?ywap64⟩) hk ?rwap64
  case ywap64 => (intro w hSw; have hcw := hSw.2.1; clear hSw; go_simp; first | done | with_reducible rfl)
  simp only [Act.put, List.setIfInBounds_toArray, List.set_cons_zero, List.set_cons_succ]
  refine wpAnyH_take (i := 4) (oi := ⟨some 28, .move (.tmp 5), 46, "wal.go:110", #[], none⟩) (v := ?vwap65) rfl (by kernel_rfl) (by kernel_rfl) (by kernel_rfl) (fun _ _ _ h => h) (Or.inl ⟨by rfl, ?ywap65⟩) hk ?rwap65
  case ywap65 => (intro w hSw; (try dsimp only at hSw); go_simp; first | done | with_reducible rfl)
  simp only [Act.put, List.setIfInBounds_toArray, List.set_cons_zero, List.set_cons_succ]
  refine wpAnyH_take (i := 5) (oi := ⟨some 29, .call { callee := .builtin Builtin.len, args := #[.tmp 28], argTypes := #[46] }, 3, "wal.go:110", #[⟨4, .data⟩], none⟩) (v := ?vwap66) rfl (by kernel_rfl) (by kernel_rfl) (by kernel_rfl) (fun _ _ _ h => h) (Or.inl ⟨by rfl, ?ywap66⟩) hk ?rwap66
  case ywap66 => (intro w hSw; (try dsimp only at hSw); go_simp; first | done | with_reducible rfl)
  simp only [Act.put, List.setIfInBounds_toArray, List.set_cons_zero, List.set_cons_succ]
  refine wpAnyH_take (i := 8) (oi := ⟨some 32, .move (.tmp 0), 81, "wal.go:110", #[], none⟩) (v := ?vwap67) rfl (by kernel_rfl) (by kernel_rfl) (by kernel_rfl) (fun _ _ _ h => h) (Or.inl ⟨by rfl, ?ywap67⟩) hk ?rwap67
  case ywap67 => (intro w hSw; (try dsimp only at hSw); go_simp; first | done | with_reducible rfl)
  simp only [Act.put, List.setIfInBounds_toArray, List.set_cons_zero, List.set_cons_succ]
  refine wpAnyH_take (i := 9) (oi := ⟨some 33, .nilCheck (.tmp 32), 0, "wal.go:110", #[⟨8, .data⟩], none⟩) (v := ?vwap68) rfl (by kernel_rfl) (by kernel_rfl) (by kernel_rfl) (fun _ _ _ h => h) (Or.inl ⟨by rfl, ?ywap68⟩) hk ?rwap68
  case ywap68 => (intro w hSw; (try dsimp only at hSw); go_simp; first | done | with_reducible rfl)
  simp only [Act.put, List.setIfInBounds_toArray, List.set_cons_zero, List.set_cons_succ]
  refine wpAnyH_take (i := 10) (oi := ⟨some 34, .fieldAddr 121 (.tmp 33) 0, 0, "wal.go:110", #[⟨9, .data⟩], none⟩) (v := ?vwap69) rfl (by kernel_rfl) (by kernel_rfl) (by kernel_rfl) (fun _ _ _ h => h) (Or.inl ⟨by rfl, ?ywap69⟩) hk ?rwap69
  case ywap69 => (intro w hSw; (try dsimp only at hSw); go_simp; first | done | with_reducible rfl)
  simp only [Act.put, List.setIfInBounds_toArray, List.set_cons_zero, List.set_cons_succ]
  refine wpAnyH_take (i := 11) (oi := ⟨some 35, .load 25 (.tmp 34), 25, "wal.go:110", #[⟨10, .data⟩], none⟩) (v := ?vwap610) rfl (by kernel_rfl) (by kernel_rfl) (by kernel_rfl) (fun _ _ _ h => h) (Or.inl ⟨by rfl, ?ywap610⟩) hk ?rwap610
  case ywap610 => (intro w hSw; have hcw := hSw.1; clear hSw; go_simp; first | done | with_reducible rfl)
  simp only [Act.put, List.setIfInBounds_toArray, List.set_cons_zero, List.set_cons_succ]
  refine wpAnyH_ready (rs := [6]) (by decide +kernel) (by simp) ?_
  refine AllReadyH.cons (o := ⟨some 30, .call { callee := .value (.func 77), args := #[.tmp 29], argTypes := #[3] }, 3, "wal.go:110", #[⟨5, .data⟩], none⟩) rfl (fun K hK => ?_) AllReadyH.nil
  go_simp
  refine (wsec_any fl _ (by omega)).mono ?_
  rintro e1 w8 ⟨rfl, rfl⟩
  refine hK.out _ _ hk (fun _ => ?_)
  clear hK K
  try simp only [Act.put, List.setIfInBounds_toArray, List.set_cons_zero, List.set_cons_succ]
  refine wpAnyH_take (i := 7) (oi := ⟨some 31, .binOp .add 3 (.tmp 27) (.tmp 30) 3, 3, "wal.go:110", #[⟨3, .data⟩, ⟨6, .data⟩], none⟩) (v := ?vwap611) rfl (by kernel_rfl) (by kernel_rfl) (by kernel_rfl) (fun _ _ _ h => h) (Or.inl ⟨by rfl, ?ywap611⟩) hk ?rwap611
  case ywap611 => (intro w hSw; (try dsimp only at hSw); go_simp; first | done | with_reducible rfl)
  simp only [Act.put, List.setIfInBounds_toArray, List.set_cons_zero, List.set_cons_succ]
  refine wpAnyH_ready (rs := [12]) (by decide +kernel) (by simp) ?_
  refine AllReadyH.cons (o := ⟨some 36, .call { callee := .value (.func 57), args := #[.tmp 35], argTypes := #[25] }, 3, "wal.go:110", #[⟨11, .data⟩, ⟨6, .chain⟩], none⟩) rfl (fun K hK => ?_) AllReadyH.nil
  go_simp
  refine (sectors_any gd ownD s _ hk.2.2).mono ?_
  rintro e1 w8 ⟨rfl, rfl⟩
  refine hK.out _ _ hk (fun _ => ?_)
  clear hK K
  try simp only [Act.put, List.setIfInBounds_toArray, List.set_cons_zero, List.set_cons_succ]
  refine wpAnyH_take (i := 13) (oi := ⟨some 37, .binOp .gtr 3 (.tmp 31) (.tmp 36) 3, 4, "wal.go:110", #[⟨7, .data⟩, ⟨12, .data⟩], none⟩) (v := ?vwap612) rfl (by kernel_rfl) (by kernel_rfl) (by kernel_rfl) (fun _ _ _ h => h) (Or.inl ⟨by rfl, ?ywap612⟩) hk ?rwap612
  case ywap612 => (intro w hSw; (try dsimp only at hSw); go_simp; first | done | with_reducible rfl)
  simp only [Act.put, List.setIfInBounds_toArray, List.set_cons_zero, List.set_cons_succ]
  refine wpAnyH_done (by decide +kernel) ?_ _
  clear hk
  have cf := (HR.out.below HB3.out).c3
  rw [hfd] at cf
  go_wp2
  go_ret
  exact ⟨rfl, HB3.out⟩
end Go.Proofs.YtjnjokbdoendkaaGreat
namespace Go.Proofs.YtjnjokbdoendkaaGreat
open Go.RowKit
set_option linter.unusedVariables false

/-- what Append leaves -/
def APP (s : DS) (L : LS) (b : List Int) (gl gd : Nat) (ownD ownL : Nat → Prop) (w w' : World) : Prop := ∃ ownD' ownL', Dsk w' gd ownD' (apS s L b) ∧ Lg w' gl ownL' gd (apL s L b) ∧ Did2 ownD ownL w w' ownD' ownL'
set_option maxRecDepth 100000 in
theorem APP.er {s : DS} {L : LS} {b : List Int} {gl gd : Nat} {ownD ownL own5 : Nat → Prop} {w w4 w5 w6 : World} {vt : Value} (hgo : L.go s b = true) (h0 : (L.wr s b).2 ≠ 0) (hd : ∀ k, ownL k → ¬ ownD k) (hlt : ∀ k, ownL k → k < w.heap.size) (hb : Below w.heap.size w w4) (hdid : Did ownD w4 w5 own5)
    (hD : Dsk w5 gd own5 (L.wr s b).1) (hR : LgR w5 gl ownL gd L vt) (h6 : w6 = w5.setCell ⟨gl, 3, none⟩ (.bool true)) : APP s L b gl gd ownD ownL w w6 := by
  have hsz : w6.heap.size = w5.heap.size := by rw [h6]; simp [World.setCell]
  have hdj : ∀ k, ownL k → ¬ own5 k := fun k hk ho => by
    rcases hdid.new k ho with h1 | h1
    · exact hd k hk h1
    · have := hlt k hk; have := hb.size; omega
  have hk56 : Kept ownL w5 w6 := by rw [h6]; exact (Kept.refl _ _).setCell (.inl hR.og) 3 _
  refine ⟨own5, ownL, ?_, ?_, ?_, ?_, fun k hk => .inl hk, hdj⟩
  · rw [(ap_yes hgo).2]; exact hD.kept hk56 (fun k hk ho => hdj k ho hk)
  · rw [ap_er hgo h0]; exact ⟨vt, by rw [h6]; exact hR.setFailed⟩
  · have h1 : Kept (fun k => ownD k ∨ ownL k) w w4 := Kept.of_below hb
    have h2 := h1.trans hdid.kept (fun k hk => .inl (.inl hk))
    exact h2.trans hk56 (fun k hk => .inl (.inr hk))
  · intro k hk
    rcases hdid.new k hk with h1 | h1
    · exact .inl h1
    · exact .inr ⟨by have := hb.size; omega, by rw [hsz]; exact h1.2⟩
set_option maxRecDepth 100000 in
theorem APP.ok {s : DS} {L : LS} {b : List Int} {gl gd : Nat} {ownD ownL own5 own2 : Nat → Prop} {w w4 w5 w6 w7 : World} {vt : Value} (hgo : L.go s b = true) (h0 : (L.wr s b).2 = 0) (hd : ∀ k, ownL k → ¬ ownD k) (hlt : ∀ k, ownL k → k < w.heap.size) (hb : Below w.heap.size w w4) (hdid : Did ownD w4 w5 own5)
    (hD : Dsk w5 gd own5 (L.wr s b).1) (hk5 : Kept ownL w5 w6) (hn : ∀ k, own2 k → ownL k ∨ (w5.heap.size ≤ k ∧ k < w6.heap.size)) (hk6 : Kept own2 w6 w7) (hR : LgR w7 gl own2 gd ⟨L.T ++ [b], L.next + ns (20 + b.length), L.failed⟩ vt) : APP s L b gl gd ownD ownL w w7 := by
  have hdj : ∀ k, own2 k → ¬ own5 k := fun k hk ho => by
    rcases hn k hk with h2 | h2
    · rcases hdid.new k ho with h1 | h1
      · exact hd k h2 h1
      · have := hlt k h2; have := hb.size; omega
    · have := hD.lt k ho; omega
  have hs5 := hdid.kept.size
  have hs6 := hk5.size
  have hs7 := hk6.size
  have hk57 : Kept ownL w5 w7 := hk5.trans hk6 (fun k hk => by rcases hn k hk with h | h; exact .inl h; exact .inr h.1)
  refine ⟨own5, own2, ?_, ?_, ?_, ?_, ?_, hdj⟩
  · rw [(ap_yes hgo).2]
    have hlL : ∀ k, own5 k → ¬ ownL k := fun k hk ho => by
      rcases hdid.new k hk with h1 | h1
      · exact hd k ho h1
      · have := hlt k ho; have := hb.size; omega
    exact hD.kept hk57 hlL
  · rw [ap_ok hgo h0]; exact ⟨vt, hR⟩
  · have h1 : Kept (fun k => ownD k ∨ ownL k) w w4 := Kept.of_below hb
    have h2 := h1.trans hdid.kept (fun k hk => .inl (.inl hk))
    exact h2.trans hk57 (fun k hk => .inl (.inr hk))
  · intro k hk
    rcases hdid.new k hk with h1 | h1
    · exact .inl h1
    · exact .inr ⟨by have := hb.size; omega, by omega⟩
  · intro k hk
    rcases hn k hk with h1 | h1
    · exact .inl h1
    · exact .inr ⟨by have := hb.size; omega, by omega⟩
set_option maxRecDepth 100000 in
set_option maxHeartbeats 2000000 in
theorem append_go (gl gd : Nat) (ownD ownL : Nat → Prop) (s : DS) (L : LS) (a : Option Addr) (len cap : Nat) (b : List Int) (w : World) (hD : Dsk w gd ownD s) (hLg : Lg w gl ownL gd L) (hbt : Bts w a len cap b) (hbig : ¬ 16384 < len) (hfull : ¬ s.F.length < L.next + ns (20 + len)) (hfd : L.failed = false)
    (hfar : 0 < len → ∀ p, a = some p → ¬ ownD p.block) (hdj : ∀ k, ownL k → ¬ ownD k) (hO : s.O.length ≤ 900000) :
    Calls Tryz.prog 45 #[.pointer (some ⟨gl, 0, none⟩), .slice a len cap] w fun e w' => e = .returned (.int .i64 (L.wr s b).2) ∧ APP s L b gl gd ownD ownL w w' := by
  have HGO : Bx (L.go s b = true) := ⟨LS.go_iff.2 ⟨by rw [hbt.len_eq]; omega, by rw [hbt.len_eq]; omega, hfd⟩⟩
  have HLLT : Bx (∀ k, ownL k → k < w.heap.size) := ⟨hLg.lt⟩
  have HDLT : Bx (∀ k, ownD k → k < w.heap.size) := ⟨hD.lt⟩
  obtain ⟨vt, hR⟩ := hLg
  obtain ⟨av, cv, rfl, _⟩ := hR.tl.form
  have c1 := hR.c1
  have H0 : Bx _ := ⟨hR.c0⟩
  have HR : Bx (LgR w gl ownL gd L (.slice av L.T.length cv)) := ⟨hR⟩
  have hTl : L.T.length ≤ 4096 := Nat.le_trans hR.tn hR.n2
  have hn2 := hR.n2
  have hbl := hbt.len_eq
  have HBT : Bx (Bts w a len cap b) := ⟨hbt⟩
  have HDK : Bx (Dsk w gd ownD s) := ⟨hD⟩
  have hdn2 := hD.ok.n2
  clear hR hbt hD
  go_enter Tryz.func45, Tryz.ntmps45
  go_wp2_with fail
  refine (lmade_yes gl gd _ H0.out).mono ?_
  rintro e w' ⟨rfl, rfl⟩
  go_wp2_with fail
  refine (number_any _ _ _ _ hTl).mono ?_
  rintro e w' ⟨rfl, rfl⟩
  go_wp2_with fail
  refine (put8_any ((L.T.length : Int) + 1) a len cap b _ (by omega) (by omega) HBT.out).mono ?_
  rintro e w3 ⟨v3, rfl, hown3, hb3⟩
  clear c1 H0
  rw [ptE_seq, hbl]
  rw [if_neg hbig]
  have hpl : ptL ((L.T.length : Int) + 1) b = frmL ((L.T.length : Int) + 1) b := ptL_ok (by rw [ptE_seq, hbl, if_neg hbig])
  rw [hpl, frmL_len, hbl] at hown3
  obtain ⟨a3, c3, rfl, hm3⟩ := Bts.of_owns hown3 (frmL_byt _ _ HBT.out.byt)
  have HM3 : Bx _ := ⟨hm3⟩
  have HO3 : Bx _ := ⟨hown3⟩
  have HB3 : Bx (Below w.heap.size w w3) := ⟨hb3⟩
  have hR3 := HR.out.below hb3
  have hk : w3.drew.cell? ⟨gl, 0, none⟩ = some (.pointer (some ⟨gd, 0, none⟩)) ∧ w3.drew.cell? ⟨gl, 2, none⟩ = some (.int .i64 (L.next : Int)) ∧ Dsk w3.drew gd ownD s := ⟨hR3.c0, hR3.c2, (HDK.out.below hb3).drewN 1⟩
  obtain ⟨fl, HFL⟩ : ∃ fl, Bx (fl = 20 + len) := ⟨_, ⟨rfl⟩⟩
  have hfl : fl ≤ 20000 := by rw [HFL.out]; omega
  rw [← HFL.out] at HM3 HO3 hm3 ⊢
  have hnsb : ns fl ≤ 1000 := by unfold ns; omega
  have hw1 : IntKind.i64.wrap ((L.next : Int) + ((ns fl : Nat) : Int)) = (L.next : Int) + ((ns fl : Nat) : Int) := IntWalk.i64_in _ (by omega)
  clear hown3 hm3 hb3 hR3 hpl
  replace HM3 : Bx (Bts w3.drew a3 fl c3 (frmL ((L.T.length : Int) + 1) b)) := ⟨HM3.out.drewN 1⟩
  replace HB3 : Bx (Below w.heap.size w w3.drew) := ⟨HB3.out.drew⟩
  rw [← HFL.out] at hfull
  have g1 : ¬ (s.F.length : Int) < (L.next : Int) + ((ns fl : Nat) : Int) := by omega
  have HRD : Bx (LgR w3.drew gl ownL gd L (.slice av L.T.length cv)) := ⟨HR.out.below HB3.out⟩
  have HO3' : Bx (∀ p, a3 = some p → w.heap.size ≤ p.block) := ⟨fun p e => (own_ge HO3.out p e).1⟩
  clear HO3
  go_wp2_with fail
  refine wp_region_held_drew (S := fun W => W.cell? ⟨gl, 0, none⟩ = some (.pointer (some ⟨gd, 0, none⟩)) ∧ W.cell? ⟨gl, 2, none⟩ = some (.int .i64 (L.next : Int)) ∧ Dsk W gd ownD s) (by kernel_rfl) hk (fun _ => ?_)
  generalize w3.drew = wd at hk HB3 HM3 HRD ⊢
  refine wpAnyH_take (i := 0) (oi := ⟨some 24, .move (.tmp 0), 81, "wal.go:110", #[], none⟩) (v := ?vwap6b1) rfl (by kernel_rfl) (by kernel_rfl) (by kernel_rfl) (fun _ _ _ h => h) (Or.inl ⟨by rfl, ?ywap6b1⟩) hk ?rwap6b1
  case ywap6b1 => (intro w hSw; (try dsimp only at hSw); go_simp; first | done | with_reducible rfl)
  simp only [Act.put, List.setIfInBounds_toArray, List.set_cons_zero, List.set_cons_succ]
  refine wpAnyH_take (i := 1) (oi := ⟨some 25, .nilCheck (.tmp 24), 0, "wal.go:110", #[⟨0, .data⟩], none⟩) (v := ?vwap6b2) rfl (by kernel_rfl) (by kernel_rfl) (by kernel_rfl) (fun _ _ _ h => h) (Or.inl ⟨by rfl, ?ywap6b2⟩) hk ?rwap6b2
  case ywap6b2 => (intro w hSw; (try dsimp only at hSw); go_simp; first | done | with_reducible rfl)
  simp only [Act.put, List.setIfInBounds_toArray, List.set_cons_zero, List.set_cons_succ]
  refine wpAnyH_take (i := 2) (oi := ⟨some 26, .fieldAddr 121 (.tmp 25) 2, 0, "wal.go:110", #[⟨1, .data⟩], none⟩) (v := ?vwap6b3) rfl (by kernel_rfl) (by kernel_rfl) (by kernel_rfl) (fun _ _ _ h => h) (Or.inl ⟨by rfl, ?ywap6b3⟩) hk ?rwap6b3
  case ywap6b3 => (intro w hSw; (try dsimp only at hSw); go_simp; first | done | with_reducible rfl)
  simp only [Act.put, List.setIfInBounds_toArray, List.set_cons_zero, List.set_cons_succ]
  refine wpAnyH_take (i := 3) (oi := ⟨some 27, .load 3 (.tmp 26), 3, "wal.go:110", #[⟨2, .data⟩], none⟩) (v := ?vwap6b4) rfl (by kernel_rfl) (by kernel_rfl) (by kernel_rfl) (fun _ _ _ h => h) (Or.inl ⟨by rfl, ?ywap6b4⟩) hk ?rwap6b4
  case ywap6b4 => (intro w hSw; have hcw := hSw.2.1; clear hSw; go_simp; first | done | with_reducible rfl)
  simp only [Act.put, List.setIfInBounds_toArray, List.set_cons_zero, List.set_cons_succ]
  refine wpAnyH_take (i := 4) (oi := ⟨some 28, .move (.tmp 5), 46, "wal.go:110", #[], none⟩) (v := ?vwap6b5) rfl (by kernel_rfl) (by kernel_rfl) (by kernel_rfl) (fun _ _ _ h => h) (Or.inl ⟨by rfl, ?ywap6b5⟩) hk ?rwap6b5
  case ywap6b5 => (intro w hSw; (try dsimp only at hSw); go_simp; first | done | with_reducible rfl)
  simp only [Act.put, List.setIfInBounds_toArray, List.set_cons_zero, List.set_cons_succ]
  refine wpAnyH_take (i := 5) (oi := ⟨some 29, .call { callee := .builtin Builtin.len, args := #[.tmp 28], argTypes := #[46] }, 3, "wal.go:110", #[⟨4, .data⟩], none⟩) (v := ?vwap6b6) rfl (by kernel_rfl) (by kernel_rfl) (by kernel_rfl) (fun _ _ _ h => h) (Or.inl ⟨by rfl, ?ywap6b6⟩) hk ?rwap6b6
  case ywap6b6 => (intro w hSw; (try dsimp only at hSw); go_simp; first | done | with_reducible rfl)
  simp only [Act.put, List.setIfInBounds_toArray, List.set_cons_zero, List.set_cons_succ]
  refine wpAnyH_take (i := 8) (oi := ⟨some 32, .move (.tmp 0), 81, "wal.go:110", #[], none⟩) (v := ?vwap6b7) rfl (by kernel_rfl) (by kernel_rfl) (by kernel_rfl) (fun _ _ _ h => h) (Or.inl ⟨by rfl, ?ywap6b7⟩) hk ?rwap6b7
  case ywap6b7 => (intro w hSw; (try dsimp only at hSw); go_simp; first | done | with_reducible rfl)
  simp only [Act.put, List.setIfInBounds_toArray, List.set_cons_zero, List.set_cons_succ]
  refine wpAnyH_take (i := 9) (oi := ⟨some 33, .nilCheck (.tmp 32), 0, "wal.go:110", #[⟨8, .data⟩], none⟩) (v := ?vwap6b8) rfl (by kernel_rfl) (by kernel_rfl) (by kernel_rfl) (fun _ _ _ h => h) (Or.inl ⟨by rfl, ?ywap6b8⟩) hk ?rwap6b8
  case ywap6b8 => (intro w hSw; (try dsimp only at hSw); go_simp; first | done | with_reducible rfl)
  simp only [Act.put, List.setIfInBounds_toArray, List.set_cons_zero, List.set_cons_succ]
  refine wpAnyH_take (i := 10) (oi := ⟨some 34, .fieldAddr 121 (.tmp 33) 0, 0, "wal.go:110", #[⟨9, .data⟩], none⟩) (v := ?vwap6b9) rfl (by kernel_rfl) (by kernel_rfl) (by kernel_rfl) (fun _ _ _ h => h) (Or.inl ⟨by rfl, ?ywap6b9⟩) hk ?rwap6b9
  case ywap6b9 => (intro w hSw; (try dsimp only at hSw); go_simp; first | done | with_reducible rfl)
  simp only [Act.put, List.setIfInBounds_toArray, List.set_cons_zero, List.set_cons_succ]
  refine wpAnyH_take (i := 11) (oi := ⟨some 35, .load 25 (.tmp 34), 25, "wal.go:110", #[⟨10, .data⟩], none⟩) (v := ?vwap6b10) rfl (by kernel_rfl) (by kernel_rfl) (by kernel_rfl) (fun _ _ _ h => h) (Or.inl ⟨by rfl, ?ywap6b10⟩) hk ?rwap6b10
  case ywap6b10 => (intro w hSw; have hcw := hSw.1; clear hSw; go_simp; first | done | with_reducible rfl)
  simp only [Act.put, List.setIfInBounds_toArray, List.set_cons_zero, List.set_cons_succ]
  refine wpAnyH_ready (rs := [6]) (by decide +kernel) (by simp) ?_
  refine AllReadyH.cons (o := ⟨some 30, .call { callee := .value (.func 77), args := #[.tmp 29], argTypes := #[3] }, 3, "wal.go:110", #[⟨5, .data⟩], none⟩) rfl (fun K hK => ?_) AllReadyH.nil
  go_simp
  refine (wsec_any fl _ (by omega)).mono ?_
  rintro e1 w8 ⟨rfl, rfl⟩
  refine hK.out _ _ hk (fun _ => ?_)
  clear hK K
  try simp only [Act.put, List.setIfInBounds_toArray, List.set_cons_zero, List.set_cons_succ]
  refine wpAnyH_take (i := 7) (oi := ⟨some 31, .binOp .add 3 (.tmp 27) (.tmp 30) 3, 3, "wal.go:110", #[⟨3, .data⟩, ⟨6, .data⟩], none⟩) (v := ?vwap6b11) rfl (by kernel_rfl) (by kernel_rfl) (by kernel_rfl) (fun _ _ _ h => h) (Or.inl ⟨by rfl, ?ywap6b11⟩) hk ?rwap6b11
  case ywap6b11 => (intro w hSw; (try dsimp only at hSw); go_simp; first | done | with_reducible rfl)
  simp only [Act.put, List.setIfInBounds_toArray, List.set_cons_zero, List.set_cons_succ]
  refine wpAnyH_ready (rs := [12]) (by decide +kernel) (by simp) ?_
  refine AllReadyH.cons (o := ⟨some 36, .call { callee := .value (.func 57), args := #[.tmp 35], argTypes := #[25] }, 3, "wal.go:110", #[⟨11, .data⟩, ⟨6, .chain⟩], none⟩) rfl (fun K hK => ?_) AllReadyH.nil
  go_simp
  refine (sectors_any gd ownD s _ hk.2.2).mono ?_
  rintro e1 w8 ⟨rfl, rfl⟩
  refine hK.out _ _ hk (fun _ => ?_)
  clear hK K
  try simp only [Act.put, List.setIfInBounds_toArray, List.set_cons_zero, List.set_cons_succ]
  refine wpAnyH_take (i := 13) (oi := ⟨some 37, .binOp .gtr 3 (.tmp 31) (.tmp 36) 3, 4, "wal.go:110", #[⟨7, .data⟩, ⟨12, .data⟩], none⟩) (v := ?vwap6b12) rfl (by kernel_rfl) (by kernel_rfl) (by kernel_rfl) (fun _ _ _ h => h) (Or.inl ⟨by rfl, ?ywap6b12⟩) hk ?rwap6b12
  case ywap6b12 => (intro w hSw; (try dsimp only at hSw); go_simp; first | done | with_reducible rfl)
  simp only [Act.put, List.setIfInBounds_toArray, List.set_cons_zero, List.set_cons_succ]
  refine wpAnyH_done (by decide +kernel) ?_ _
  have cf := HRD.out.c3
  rw [hfd] at cf
  obtain ⟨k1, k2, hDd⟩ := hk
  obtain ⟨fb, fo, rfl, hfbl, _⟩ := HM3.out.spot (by rw [HFL.out]; omega)
  have hfb := HO3'.out _ rfl
  clear k1 k2 HO3'
  go_wp2_with fail
  refine (cutf_any fb fo fl c3 _ _ HM3.out hfl (by rw [HFL.out]; omega)).mono ?_
  rintro e w4 ⟨v4, rfl, hT4, hb4⟩
  have HB4 : Bx (Below w.heap.size w w4) := ⟨bstep HB3.out hb4⟩
  have hR4 := HRD.out.below hb4
  have hD4 := hDd.below hb4
  have hFRL : (frmL ((L.T.length : Int) + 1) b).length = fl := HM3.out.len_eq
  have hPLn : (prt (frmL ((L.T.length : Int) + 1) b)).length = ns fl := by rw [prt_len, hFRL]
  obtain ⟨a4, c4, rfl, hTF⟩ := hT4.txf (own2 := ownD) (fun k hk ho => by
    have h1 := HDLT.out k ho
    rcases hk with h2 | h2
    · rw [h2] at h1; have : w.heap.size ≤ fb := hfb; omega
    · have := HB3.out.size; omega)
  rw [hPLn] at hTF ⊢
  have HTF : Bx _ := ⟨hTF⟩
  have HD4 : Bx _ := ⟨hD4⟩
  have HR4 : Bx _ := ⟨hR4⟩
  have hns1 : 1 ≤ ns fl := by rw [HFL.out]; exact ns_pos len
  have HWR : Bx (s.apW L.next (prt (frmL ((L.T.length : Int) + 1) b)) = L.wr s b) := ⟨rfl⟩
  have HB4t : Bx (Bts w4 a len cap b) := ⟨HBT.out.below HB4.out⟩
  have HNGL : Bx (¬ ownD gl) := ⟨hdj gl HR.out.og⟩
  clear hT4 hb4 hR4 hD4 hTF cf hPLn hFRL HM3 hDd HRD HB3 HR HDK HBT
  go_wp2_with fail
  refine (lwrite_any gl gd ownD s L.next (ns fl) c4 a4 _ _ HD4.out HR4.out.c0 HR4.out.c2 HNGL.out HTF.out hns1 hnsb hn2 hO).mono ?_
  rintro e w5 ⟨rfl, own5, hD5, hdid5⟩
  rw [HWR.out] at hD5 ⊢
  have hdj4 : ∀ k, ownL k → ¬ ownD k := hdj
  have hR5 : LgR w5 gl ownL gd L (.slice av L.T.length cv) := HR4.out.keep (fun k hk => hdid5.kept.block k (HR4.out.lt k hk) (hdj k hk)) hdid5.kept.size
  have HD5 : Bx _ := ⟨hD5⟩
  have HDI5 : Bx _ := ⟨hdid5⟩
  have HB5 : Bx (Bts w5 a len cap b) := ⟨HB4t.out.keep (fun hp p e => hdid5.kept.block _ (HB4t.out.lt hp e) (hfar hp p e)) hdid5.kept.size⟩
  clear HTF HD4 HR4 HB4t HNGL hD5 hdid5 HWR hO hfar
  by_cases hE : (L.wr s b).2 = 0
  · have HE : Bx ((L.wr s b).2 = 0) := ⟨hE⟩
    rw [hE]
    clear hE
    have HFIN : Bx (∀ own2 w6 w7 vt, Kept ownL w5 w6 → (∀ k, own2 k → ownL k ∨ (w5.heap.size ≤ k ∧ k < w6.heap.size)) → Kept own2 w6 w7 → LgR w7 gl own2 gd ⟨L.T ++ [b], L.next + ns fl, L.failed⟩ vt → APP s L b gl gd ownD ownL w w7) := ⟨fun own2 w6 w7 vt h1 h2 h3 h4 => APP.ok HGO.out HE.out hdj HLLT.out HB4.out HDI5.out HD5.out h1 h2 h3 (by rw [HFL.out, ← hbl] at h4; exact h4)⟩
    have HTO9 : Bx (TOk (L.T ++ [b])) := ⟨hR5.ok.snoc (by omega) HB5.out.byt⟩
    have HTN9 : Bx ((L.T ++ [b]).length ≤ L.next + ns fl) := ⟨by rw [List.length_append]; have := hR5.tn; show _ + 1 ≤ _; omega⟩
    obtain ⟨i0, hi0, hz0, hz1, hz2⟩ := info_parts Tryz.info22
    clear HD5 HDI5 HGO HLLT HDLT hdj hdj4 HB4
    go_wp2_with fail
    obtain ⟨wl, hwl⟩ : ∃ wl, wl = w5 := ⟨_, rfl⟩
    subst hwl
    obtain ⟨vt, HVT⟩ : ∃ vt, Bx (vt = Value.slice av L.T.length cv) := ⟨_, ⟨rfl⟩⟩
    have HL : Bx (LgR wl.drew gl ownL gd L vt) := ⟨by rw [HVT.out]; exact hR5.keep (fun _ _ => rfl) (Nat.le_refl _)⟩
    have HB : Bx (Bts wl.drew a len cap b) := ⟨HB5.out.drewN 1⟩
    have HBY : Bx (Byt b) := ⟨HB5.out.byt⟩
    have HK : Bx (Kept ownL wl wl.drew) := ⟨(Kept.refl _ _).drewN 1⟩
    have hk : True := trivial
    clear hR5 HB5
    go_cut [] from 52 to 72 (fun wx => ∃ own2 vt2, LgX wx gl own2 gd (L.T ++ [b]) L.next L.failed vt2 ∧ Kept ownL wl wx ∧ (∀ k, ownL k → own2 k) ∧ ∀ k, own2 k → ownL k ∨ (wl.heap.size ≤ k ∧ k < wx.heap.size))
    case first =>
      refine wp_region_held_drew (S := fun _ => True) (by kernel_rfl) hk (fun _ => ?_)
      generalize wl.drew = wk at HL HB HK ⊢
      refine wpAnyH_take (i := 0) (oi := ⟨some 52, .move (.tmp 0), 81, "wal.go:120", #[], none⟩) (v := ?vwap141) rfl (by kernel_rfl) (by kernel_rfl) (by kernel_rfl) (fun _ _ _ h => h) (Or.inl ⟨by rfl, ?ywap141⟩) hk ?rwap141
      case ywap141 => (intro w hSw; (try dsimp only at hSw); go_simp; first | done | with_reducible rfl)
      simp only [Act.put, List.setIfInBounds_toArray, List.set_cons_zero, List.set_cons_succ]
      refine wpAnyH_take (i := 1) (oi := ⟨some 53, .move (.tmp 0), 81, "wal.go:120", #[], none⟩) (v := ?vwap142) rfl (by kernel_rfl) (by kernel_rfl) (by kernel_rfl) (fun _ _ _ h => h) (Or.inl ⟨by rfl, ?ywap142⟩) hk ?rwap142
      case ywap142 => (intro w hSw; (try dsimp only at hSw); go_simp; first | done | with_reducible rfl)
      simp only [Act.put, List.setIfInBounds_toArray, List.set_cons_zero, List.set_cons_succ]
      refine wpAnyH_take (i := 2) (oi := ⟨some 54, .nilCheck (.tmp 53), 0, "wal.go:120", #[⟨1, .data⟩], none⟩) (v := ?vwap143) rfl (by kernel_rfl) (by kernel_rfl) (by kernel_rfl) (fun _ _ _ h => h) (Or.inl ⟨by rfl, ?ywap143⟩) hk ?rwap143
      case ywap143 => (intro w hSw; (try dsimp only at hSw); go_simp; first | done | with_reducible rfl)
      simp only [Act.put, List.setIfInBounds_toArray, List.set_cons_zero, List.set_cons_succ]
      refine wpAnyH_take (i := 3) (oi := ⟨some 55, .fieldAddr 121 (.tmp 54) 1, 0, "wal.go:120", #[⟨2, .data⟩], none⟩) (v := ?vwap144) rfl (by kernel_rfl) (by kernel_rfl) (by kernel_rfl) (fun _ _ _ h => h) (Or.inl ⟨by rfl, ?ywap144⟩) hk ?rwap144
      case ywap144 => (intro w hSw; (try dsimp only at hSw); go_simp; first | done | with_reducible rfl)
      simp only [Act.put, List.setIfInBounds_toArray, List.set_cons_zero, List.set_cons_succ]
      refine wpAnyH_take (i := 5) (oi := ⟨some 57, .move (.tmp 1), 46, "wal.go:120", #[], none⟩) (v := ?vwap145) rfl (by kernel_rfl) (by kernel_rfl) (by kernel_rfl) (fun _ _ _ h => h) (Or.inl ⟨by rfl, ?ywap145⟩) hk ?rwap145
      case ywap145 => (intro w hSw; (try dsimp only at hSw); go_simp; first | done | with_reducible rfl)
      simp only [Act.put, List.setIfInBounds_toArray, List.set_cons_zero, List.set_cons_succ]
      refine wpAnyH_ready (rs := [4, 6]) (by decide +kernel) (by simp) ?_
      refine (AllReadyH.cons (o := ⟨some 56, .load 57 (.tmp 55), 57, "wal.go:120", #[⟨3, .data⟩], none⟩) rfl (fun K hK => ?_) (AllReadyH.cons (o := ⟨some 58, .call { callee := .value (.func 56), args := #[.tmp 57], argTypes := #[46] }, 46, "wal.go:120", #[⟨5, .data⟩], none⟩) rfl (fun K hK => ?_) AllReadyH.nil))
      · rw [if_pos (by rfl)]
        have c1 := HL.out.c1
        go_simp
        clear c1
        refine hK.out _ _ hk (fun _ => ?_)
        clear hK K
        try simp only [Act.put, List.setIfInBounds_toArray, List.set_cons_zero, List.set_cons_succ]
        refine wpAnyH_ready (rs := [6]) (by decide +kernel) (by simp) ?_
        refine AllReadyH.cons (o := ⟨some 58, .call { callee := .value (.func 56), args := #[.tmp 57], argTypes := #[46] }, 46, "wal.go:120", #[⟨5, .data⟩], none⟩) rfl (fun K hK => ?_) AllReadyH.nil
        go_simp
        refine (clone_any a len cap b _ HB.out (by omega)).mono ?_
        rintro e1 w8 ⟨v3, rfl, hown3, hb3⟩
        obtain ⟨a3, c3, rfl, hm3⟩ := Bts.of_owns hown3 HBY.out
        have HFR : Bx (0 < len → ∀ p, a3 = some p → ¬ ownL p.block ∧ wl.heap.size ≤ p.block) := ⟨fun _ p e => by have h1 := own_ge hown3 p e; exact ⟨fun ho => by have := HL.out.lt _ ho; omega, Nat.le_trans HK.out.size h1.1⟩⟩
        replace HL : Bx (LgR w8 gl ownL gd L vt) := ⟨HL.out.keep (fun k hk => hb3.block k (HL.out.lt k hk)) hb3.size⟩
        replace HK : Bx (Kept ownL wl w8) := ⟨HK.out.below hb3⟩
        clear hown3 hb3 HB
        generalize w8 = wk at HL HK hm3 ⊢
        refine hK.out _ _ hk (fun _ => ?_)
        clear hK K
        try simp only [Act.put, List.setIfInBounds_toArray, List.set_cons_zero, List.set_cons_succ]
        refine wpAnyH_ready (rs := [7]) (by decide +kernel) (by simp) ?_
        refine AllReadyH.cons (o := ⟨some 59, .buildSlice 57 1 #[(0, .tmp 58)], 57, "wal.go:120", #[⟨6, .data⟩], none⟩) rfl (fun K hK => ?_) AllReadyH.nil
        go_simp
        have hbA : Below wk.heap.size wk (wk.alloc (.cells #[.slice a3 len c3] 46)) := (Below.refl _ _).alloc (Nat.le_refl _) _
        have hnew := World.news_of_block (heap_alloc_new wk (.cells #[.slice a3 len c3] 46))
        replace HL : Bx (LgR (wk.alloc (.cells #[.slice a3 len c3] 46)) gl ownL gd L vt) := ⟨HL.out.keep (fun k hk => hbA.block k (HL.out.lt k hk)) hbA.size⟩
        replace HK : Bx (Kept ownL wl (wk.alloc (.cells #[.slice a3 len c3] 46))) := ⟨HK.out.below hbA⟩
        replace hm3 := hm3.below hbA
        clear hbA
        generalize wk.heap.size = G at hnew ⊢
        generalize wk.alloc (.cells #[.slice a3 len c3] 46) = wk at HL HK hm3 hnew ⊢
        refine hK.out _ _ hk (fun _ => ?_)
        clear hK K
        try simp only [Act.put, List.setIfInBounds_toArray, List.set_cons_zero, List.set_cons_succ]
        refine wpAnyH_ready (rs := [8]) (by decide +kernel) (by simp) ?_
        refine AllReadyH.cons (o := ⟨some 60, .call { callee := .builtin Builtin.append, args := #[.tmp 56, .tmp 59], argTypes := #[57, 57] }, 57, "wal.go:120", #[⟨4, .data⟩, ⟨7, .data⟩, ⟨6, .chain⟩], none⟩) rfl (fun K hK => ?_) AllReadyH.nil
        obtain ⟨xs, hxo, HTA⟩ := HL.out.tl.open
        refine step_append_lies _ rfl (.tmp 56) (.tmp 59) 57 rfl 0 46 i0 (.slice none 0 0) 1 24 Tryz.underlying57 hi0 hz0 hz1 hz2 rfl (by decide) vt L.T.length xs rfl hxo ⟨G, 0, none⟩ 1 1 [.slice a3 len c3] rfl rfl hnew (by simp [Value.oneCell']) (by decide) (by unfold maxLen; omega) (by omega) (Nat.zero_le _) _ rfl ?_
        intro g4 cap4 w6 hown4 hgr4 hl4 hlt4
        obtain ⟨c1, f1, HX⟩ := LgR.more HL.out HTA.out hm3 HFR.out HK.out hown4 hgr4 hl4
        clear hown4 hgr4 hl4 hlt4 hxo HTA HL HK hm3 hnew
        refine hK.out _ _ hk (fun _ => ?_)
        clear hK K
        try simp only [Act.put, List.setIfInBounds_toArray, List.set_cons_zero, List.set_cons_succ]
        refine wpAnyH_take (i := 9) (oi := ⟨some 61, .nilCheck (.tmp 52), 0, "wal.go:120", #[⟨0, .data⟩, ⟨0, .phase⟩, ⟨1, .phase⟩, ⟨2, .phase⟩, ⟨3, .phase⟩, ⟨4, .phase⟩, ⟨5, .phase⟩, ⟨6, .phase⟩, ⟨7, .phase⟩, ⟨8, .phase⟩], none⟩) (v := ?vwap147) rfl (by kernel_rfl) (by kernel_rfl) (by kernel_rfl) (fun _ _ _ h => h) (Or.inl ⟨by rfl, ?ywap147⟩) hk ?rwap147
        case ywap147 => (intro w hSw; (try dsimp only at hSw); go_simp; first | done | with_reducible rfl)
        simp only [Act.put, List.setIfInBounds_toArray, List.set_cons_zero, List.set_cons_succ]
        refine wpAnyH_take (i := 10) (oi := ⟨some 62, .fieldAddr 121 (.tmp 61) 1, 0, "wal.go:120", #[⟨9, .data⟩, ⟨0, .phase⟩, ⟨1, .phase⟩, ⟨2, .phase⟩, ⟨3, .phase⟩, ⟨4, .phase⟩, ⟨5, .phase⟩, ⟨6, .phase⟩, ⟨7, .phase⟩, ⟨8, .phase⟩], none⟩) (v := ?vwap148) rfl (by kernel_rfl) (by kernel_rfl) (by kernel_rfl) (fun _ _ _ h => h) (Or.inl ⟨by rfl, ?ywap148⟩) hk ?rwap148
        case ywap148 => (intro w hSw; (try dsimp only at hSw); go_simp; first | done | with_reducible rfl)
        simp only [Act.put, List.setIfInBounds_toArray, List.set_cons_zero, List.set_cons_succ]
        refine wpAnyH_ready (rs := [11]) (by decide +kernel) (by simp) ?_
        refine AllReadyH.cons (o := ⟨none, .store 57 (.tmp 62) (.tmp 60), 0, "wal.go:120", #[⟨10, .data⟩, ⟨8, .data⟩, ⟨8, .chain⟩, ⟨0, .phase⟩, ⟨1, .phase⟩, ⟨2, .phase⟩, ⟨3, .phase⟩, ⟨4, .phase⟩, ⟨5, .phase⟩, ⟨6, .phase⟩, ⟨7, .phase⟩, ⟨8, .phase⟩], none⟩) rfl (fun K hK => ?_) AllReadyH.nil
        rw [if_pos (by rfl)]
        go_simp
        clear c1 f1
        refine hK.out _ _ hk (fun _ => ?_)
        clear hK K
        try simp only [Act.put, List.setIfInBounds_toArray, List.set_cons_zero, List.set_cons_succ]
        refine wpAnyH_done (by decide +kernel) ?_ _
        generalize w6.setCell ⟨gl, 1, none⟩ (.slice (some ⟨g4, 0, none⟩) (L.T.length + 1) cap4) = wq at HX ⊢
        go_wp2_with fail
        go_meet
        case rel => exact HX.out
      · go_simp
        refine (clone_any a len cap b _ HB.out (by omega)).mono ?_
        rintro e1 w8 ⟨v3, rfl, hown3, hb3⟩
        obtain ⟨a3, c3, rfl, hm3⟩ := Bts.of_owns hown3 HBY.out
        have HFR : Bx (0 < len → ∀ p, a3 = some p → ¬ ownL p.block ∧ wl.heap.size ≤ p.block) := ⟨fun _ p e => by have h1 := own_ge hown3 p e; exact ⟨fun ho => by have := HL.out.lt _ ho; omega, Nat.le_trans HK.out.size h1.1⟩⟩
        replace HL : Bx (LgR w8 gl ownL gd L vt) := ⟨HL.out.keep (fun k hk => hb3.block k (HL.out.lt k hk)) hb3.size⟩
        replace HK : Bx (Kept ownL wl w8) := ⟨HK.out.below hb3⟩
        clear hown3 hb3 HB
        generalize w8 = wk at HL HK hm3 ⊢
        refine hK.out _ _ hk (fun _ => ?_)
        clear hK K
        try simp only [Act.put, List.setIfInBounds_toArray, List.set_cons_zero, List.set_cons_succ]
        refine wpAnyH_ready (rs := [4, 7]) (by decide +kernel) (by simp) ?_
        refine (AllReadyH.cons (o := ⟨some 56, .load 57 (.tmp 55), 57, "wal.go:120", #[⟨3, .data⟩], none⟩) rfl (fun K hK => ?_) (AllReadyH.cons (o := ⟨some 59, .buildSlice 57 1 #[(0, .tmp 58)], 57, "wal.go:120", #[⟨6, .data⟩], none⟩) rfl (fun K hK => ?_) AllReadyH.nil))
        · rw [if_pos (by rfl)]
          have c1 := HL.out.c1
          go_simp
          clear c1
          refine hK.out _ _ hk (fun _ => ?_)
          clear hK K
          try simp only [Act.put, List.setIfInBounds_toArray, List.set_cons_zero, List.set_cons_succ]
          refine wpAnyH_ready (rs := [7]) (by decide +kernel) (by simp) ?_
          refine AllReadyH.cons (o := ⟨some 59, .buildSlice 57 1 #[(0, .tmp 58)], 57, "wal.go:120", #[⟨6, .data⟩], none⟩) rfl (fun K hK => ?_) AllReadyH.nil
          go_simp
          have hbA : Below wk.heap.size wk (wk.alloc (.cells #[.slice a3 len c3] 46)) := (Below.refl _ _).alloc (Nat.le_refl _) _
          have hnew := World.news_of_block (heap_alloc_new wk (.cells #[.slice a3 len c3] 46))
          replace HL : Bx (LgR (wk.alloc (.cells #[.slice a3 len c3] 46)) gl ownL gd L vt) := ⟨HL.out.keep (fun k hk => hbA.block k (HL.out.lt k hk)) hbA.size⟩
          replace HK : Bx (Kept ownL wl (wk.alloc (.cells #[.slice a3 len c3] 46))) := ⟨HK.out.below hbA⟩
          replace hm3 := hm3.below hbA
          clear hbA
          generalize wk.heap.size = G at hnew ⊢
          generalize wk.alloc (.cells #[.slice a3 len c3] 46) = wk at HL HK hm3 hnew ⊢
          refine hK.out _ _ hk (fun _ => ?_)
          clear hK K
          try simp only [Act.put, List.setIfInBounds_toArray, List.set_cons_zero, List.set_cons_succ]
          refine wpAnyH_ready (rs := [8]) (by decide +kernel) (by simp) ?_
          refine AllReadyH.cons (o := ⟨some 60, .call { callee := .builtin Builtin.append, args := #[.tmp 56, .tmp 59], argTypes := #[57, 57] }, 57, "wal.go:120", #[⟨4, .data⟩, ⟨7, .data⟩, ⟨6, .chain⟩], none⟩) rfl (fun K hK => ?_) AllReadyH.nil
          obtain ⟨xs, hxo, HTA⟩ := HL.out.tl.open
          refine step_append_lies _ rfl (.tmp 56) (.tmp 59) 57 rfl 0 46 i0 (.slice none 0 0) 1 24 Tryz.underlying57 hi0 hz0 hz1 hz2 rfl (by decide) vt L.T.length xs rfl hxo ⟨G, 0, none⟩ 1 1 [.slice a3 len c3] rfl rfl hnew (by simp [Value.oneCell']) (by decide) (by unfold maxLen; omega) (by omega) (Nat.zero_le _) _ rfl ?_
          intro g4 cap4 w6 hown4 hgr4 hl4 hlt4
          obtain ⟨c1, f1, HX⟩ := LgR.more HL.out HTA.out hm3 HFR.out HK.out hown4 hgr4 hl4
          clear hown4 hgr4 hl4 hlt4 hxo HTA HL HK hm3 hnew
          refine hK.out _ _ hk (fun _ => ?_)
          clear hK K
          try simp only [Act.put, List.setIfInBounds_toArray, List.set_cons_zero, List.set_cons_succ]
          refine wpAnyH_take (i := 9) (oi := ⟨some 61, .nilCheck (.tmp 52), 0, "wal.go:120", #[⟨0, .data⟩, ⟨0, .phase⟩, ⟨1, .phase⟩, ⟨2, .phase⟩, ⟨3, .phase⟩, ⟨4, .phase⟩, ⟨5, .phase⟩, ⟨6, .phase⟩, ⟨7, .phase⟩, ⟨8, .phase⟩], none⟩) (v := ?vwap1411) rfl (by kernel_rfl) (by kernel_rfl) (by kernel_rfl) (fun _ _ _ h => h) (Or.inl ⟨by rfl, ?ywap1411⟩) hk ?rwap1411
          case ywap1411 => (intro w hSw; (try dsimp only at hSw); go_simp; first | done | with_reducible rfl)
          simp only [Act.put, List.setIfInBounds_toArray, List.set_cons_zero, List.set_cons_succ]
          refine wpAnyH_take (i := 10) (oi := ⟨some 62, .fieldAddr 121 (.tmp 61) 1, 0, "wal.go:120", #[⟨9, .data⟩, ⟨0, .phase⟩, ⟨1, .phase⟩, ⟨2, .phase⟩, ⟨3, .phase⟩, ⟨4, .phase⟩, ⟨5, .phase⟩, ⟨6, .phase⟩, ⟨7, .phase⟩, ⟨8, .phase⟩], none⟩) (v := ?vwap1412) rfl (by kernel_rfl) (by kernel_rfl) (by kernel_rfl) (fun _ _ _ h => h) (Or.inl ⟨by rfl, ?ywap1412⟩) hk ?rwap1412
          case ywap1412 => (intro w hSw; (try dsimp only at hSw); go_simp; first | done | with_reducible rfl)
          simp only [Act.put, List.setIfInBounds_toArray, List.set_cons_zero, List.set_cons_succ]
          refine wpAnyH_ready (rs := [11]) (by decide +kernel) (by simp) ?_
          refine AllReadyH.cons (o := ⟨none, .store 57 (.tmp 62) (.tmp 60), 0, "wal.go:120", #[⟨10, .data⟩, ⟨8, .data⟩, ⟨8, .chain⟩, ⟨0, .phase⟩, ⟨1, .phase⟩, ⟨2, .phase⟩, ⟨3, .phase⟩, ⟨4, .phase⟩, ⟨5, .phase⟩, ⟨6, .phase⟩, ⟨7, .phase⟩, ⟨8, .phase⟩], none⟩) rfl (fun K hK => ?_) AllReadyH.nil
          rw [if_pos (by rfl)]
          go_simp
          clear c1 f1
          refine hK.out _ _ hk (fun _ => ?_)
          clear hK K
          try simp only [Act.put, List.setIfInBounds_toArray, List.set_cons_zero, List.set_cons_succ]
          refine wpAnyH_done (by decide +kernel) ?_ _
          generalize w6.setCell ⟨gl, 1, none⟩ (.slice (some ⟨g4, 0, none⟩) (L.T.length + 1) cap4) = wq at HX ⊢
          go_wp2_with fail
          go_meet
          case rel => exact HX.out
        · go_simp
          have hbA : Below wk.heap.size wk (wk.alloc (.cells #[.slice a3 len c3] 46)) := (Below.refl _ _).alloc (Nat.le_refl _) _
          have hnew := World.news_of_block (heap_alloc_new wk (.cells #[.slice a3 len c3] 46))
          replace HL : Bx (LgR (wk.alloc (.cells #[.slice a3 len c3] 46)) gl ownL gd L vt) := ⟨HL.out.keep (fun k hk => hbA.block k (HL.out.lt k hk)) hbA.size⟩
          replace HK : Bx (Kept ownL wl (wk.alloc (.cells #[.slice a3 len c3] 46))) := ⟨HK.out.below hbA⟩
          replace hm3 := hm3.below hbA
          clear hbA
          generalize wk.heap.size = G at hnew ⊢
          generalize wk.alloc (.cells #[.slice a3 len c3] 46) = wk at HL HK hm3 hnew ⊢
          refine hK.out _ _ hk (fun _ => ?_)
          clear hK K
          try simp only [Act.put, List.setIfInBounds_toArray, List.set_cons_zero, List.set_cons_succ]
          refine wpAnyH_ready (rs := [4]) (by decide +kernel) (by simp) ?_
          refine AllReadyH.cons (o := ⟨some 56, .load 57 (.tmp 55), 57, "wal.go:120", #[⟨3, .data⟩], none⟩) rfl (fun K hK => ?_) AllReadyH.nil
          rw [if_pos (by rfl)]
          have c1 := HL.out.c1
          go_simp
          clear c1
          refine hK.out _ _ hk (fun _ => ?_)
          clear hK K
          try simp only [Act.put, List.setIfInBounds_toArray, List.set_cons_zero, List.set_cons_succ]
          refine wpAnyH_ready (rs := [8]) (by decide +kernel) (by simp) ?_
          refine AllReadyH.cons (o := ⟨some 60, .call { callee := .builtin Builtin.append, args := #[.tmp 56, .tmp 59], argTypes := #[57, 57] }, 57, "wal.go:120", #[⟨4, .data⟩, ⟨7, .data⟩, ⟨6, .chain⟩], none⟩) rfl (fun K hK => ?_) AllReadyH.nil
          obtain ⟨xs, hxo, HTA⟩ := HL.out.tl.open
          refine step_append_lies _ rfl (.tmp 56) (.tmp 59) 57 rfl 0 46 i0 (.slice none 0 0) 1 24 Tryz.underlying57 hi0 hz0 hz1 hz2 rfl (by decide) vt L.T.length xs rfl hxo ⟨G, 0, none⟩ 1 1 [.slice a3 len c3] rfl rfl hnew (by simp [Value.oneCell']) (by decide) (by unfold maxLen; omega) (by omega) (Nat.zero_le _) _ rfl ?_
          intro g4 cap4 w6 hown4 hgr4 hl4 hlt4
          obtain ⟨c1, f1, HX⟩ := LgR.more HL.out HTA.out hm3 HFR.out HK.out hown4 hgr4 hl4
          clear hown4 hgr4 hl4 hlt4 hxo HTA HL HK hm3 hnew
          refine hK.out _ _ hk (fun _ => ?_)
          clear hK K
          try simp only [Act.put, List.setIfInBounds_toArray, List.set_cons_zero, List.set_cons_succ]
          refine wpAnyH_take (i := 9) (oi := ⟨some 61, .nilCheck (.tmp 52), 0, "wal.go:120", #[⟨0, .data⟩, ⟨0, .phase⟩, ⟨1, .phase⟩, ⟨2, .phase⟩, ⟨3, .phase⟩, ⟨4, .phase⟩, ⟨5, .phase⟩, ⟨6, .phase⟩, ⟨7, .phase⟩, ⟨8, .phase⟩], none⟩) (v := ?vwap1415) rfl (by kernel_rfl) (by kernel_rfl) (by kernel_rfl) (fun _ _ _ h => h) (Or.inl ⟨by rfl, ?ywap1415⟩) hk ?rwap1415
          case ywap1415 => (intro w hSw; (try dsimp only at hSw); go_simp; first | done | with_reducible rfl)
          simp only [Act.put, List.setIfInBounds_toArray, List.set_cons_zero, List.set_cons_succ]
          refine wpAnyH_take (i := 10) (oi := ⟨some 62, .fieldAddr 121 (.tmp 61) 1, 0, "wal.go:120", #[⟨9, .data⟩, ⟨0, .phase⟩, ⟨1, .phase⟩, ⟨2, .phase⟩, ⟨3, .phase⟩, ⟨4, .phase⟩, ⟨5, .phase⟩, ⟨6, .phase⟩, ⟨7, .phase⟩, ⟨8, .phase⟩], none⟩) (v := ?vwap1416) rfl (by kernel_rfl) (by kernel_rfl) (by kernel_rfl) (fun _ _ _ h => h) (Or.inl ⟨by rfl, ?ywap1416⟩) hk ?rwap1416
          case ywap1416 => (intro w hSw; (try dsimp only at hSw); go_simp; first | done | with_reducible rfl)
          simp only [Act.put, List.setIfInBounds_toArray, List.set_cons_zero, List.set_cons_succ]
          refine wpAnyH_ready (rs := [11]) (by decide +kernel) (by simp) ?_
          refine AllReadyH.cons (o := ⟨none, .store 57 (.tmp 62) (.tmp 60), 0, "wal.go:120", #[⟨10, .data⟩, ⟨8, .data⟩, ⟨8, .chain⟩, ⟨0, .phase⟩, ⟨1, .phase⟩, ⟨2, .phase⟩, ⟨3, .phase⟩, ⟨4, .phase⟩, ⟨5, .phase⟩, ⟨6, .phase⟩, ⟨7, .phase⟩, ⟨8, .phase⟩], none⟩) rfl (fun K hK => ?_) AllReadyH.nil
          rw [if_pos (by rfl)]
          go_simp
          clear c1 f1
          refine hK.out _ _ hk (fun _ => ?_)
          clear hK K
          try simp only [Act.put, List.setIfInBounds_toArray, List.set_cons_zero, List.set_cons_succ]
          refine wpAnyH_done (by decide +kernel) ?_ _
          generalize w6.setCell ⟨gl, 1, none⟩ (.slice (some ⟨g4, 0, none⟩) (L.T.length + 1) cap4) = wq at HX ⊢
          go_wp2_with fail
          go_meet
          case rel => exact HX.out
    case rest =>
      clear HL HB HK
      obtain ⟨own2, vt2, hX, hK2, hsub, hnew2⟩ := hcut
      have HX : Bx (LgX wc.drew gl own2 gd (L.T ++ [b]) L.next L.failed vt2) := ⟨hX.drew⟩
      have HK : Bx (Kept own2 wc wc.drew) := ⟨(Kept.refl _ _).drewN 1⟩
      replace HFIN : Bx (∀ w7 vt, LgR w7 gl own2 gd ⟨L.T ++ [b], L.next + ns fl, L.failed⟩ vt → Kept own2 wc w7 → APP s L b gl gd ownD ownL w w7) := ⟨fun w7 vt h1 h2 => HFIN.out own2 wc w7 vt hK2 hnew2 h2 h1⟩
      clear hX hK2 hsub hnew2
      go_wp2_with fail
      refine wp_region_held_drew (S := fun _ => True) (by kernel_rfl) hk (fun _ => ?_)
      generalize wc.drew = wk at HX HK ⊢
      refine wpAnyH_take (i := 0) (oi := ⟨some 63, .move (.tmp 0), 81, "wal.go:121", #[], none⟩) (v := ?vwap151) rfl (by kernel_rfl) (by kernel_rfl) (by kernel_rfl) (fun _ _ _ h => h) (Or.inl ⟨by rfl, ?ywap151⟩) hk ?rwap151
      case ywap151 => (intro w hSw; (try dsimp only at hSw); go_simp; first | done | with_reducible rfl)
      simp only [Act.put, List.setIfInBounds_toArray, List.set_cons_zero, List.set_cons_succ]
      refine wpAnyH_take (i := 1) (oi := ⟨some 64, .nilCheck (.tmp 63), 0, "wal.go:121", #[⟨0, .data⟩], none⟩) (v := ?vwap152) rfl (by kernel_rfl) (by kernel_rfl) (by kernel_rfl) (fun _ _ _ h => h) (Or.inl ⟨by rfl, ?ywap152⟩) hk ?rwap152
      case ywap152 => (intro w hSw; (try dsimp only at hSw); go_simp; first | done | with_reducible rfl)
      simp only [Act.put, List.setIfInBounds_toArray, List.set_cons_zero, List.set_cons_succ]
      refine wpAnyH_take (i := 2) (oi := ⟨some 65, .fieldAddr 121 (.tmp 64) 2, 0, "wal.go:121", #[⟨1, .data⟩], none⟩) (v := ?vwap153) rfl (by kernel_rfl) (by kernel_rfl) (by kernel_rfl) (fun _ _ _ h => h) (Or.inl ⟨by rfl, ?ywap153⟩) hk ?rwap153
      case ywap153 => (intro w hSw; (try dsimp only at hSw); go_simp; first | done | with_reducible rfl)
      simp only [Act.put, List.setIfInBounds_toArray, List.set_cons_zero, List.set_cons_succ]
      refine wpAnyH_take (i := 4) (oi := ⟨some 67, .move (.tmp 5), 46, "wal.go:121", #[], none⟩) (v := ?vwap154) rfl (by kernel_rfl) (by kernel_rfl) (by kernel_rfl) (fun _ _ _ h => h) (Or.inl ⟨by rfl, ?ywap154⟩) hk ?rwap154
      case ywap154 => (intro w hSw; (try dsimp only at hSw); go_simp; first | done | with_reducible rfl)
      simp only [Act.put, List.setIfInBounds_toArray, List.set_cons_zero, List.set_cons_succ]
      refine wpAnyH_take (i := 5) (oi := ⟨some 68, .call { callee := .builtin Builtin.len, args := #[.tmp 67], argTypes := #[46] }, 3, "wal.go:121", #[⟨4, .data⟩], none⟩) (v := ?vwap155) rfl (by kernel_rfl) (by kernel_rfl) (by kernel_rfl) (fun _ _ _ h => h) (Or.inl ⟨by rfl, ?ywap155⟩) hk ?rwap155
      case ywap155 => (intro w hSw; (try dsimp only at hSw); go_simp; first | done | with_reducible rfl)
      simp only [Act.put, List.setIfInBounds_toArray, List.set_cons_zero, List.set_cons_succ]
      refine wpAnyH_ready (rs := [3, 6]) (by decide +kernel) (by simp) ?_
      refine (AllReadyH.cons (o := ⟨some 66, .load 3 (.tmp 65), 3, "wal.go:121", #[⟨2, .data⟩], none⟩) rfl (fun K hK => ?_) (AllReadyH.cons (o := ⟨some 69, .call { callee := .value (.func 77), args := #[.tmp 68], argTypes := #[3] }, 3, "wal.go:121", #[⟨5, .data⟩], none⟩) rfl (fun K hK => ?_) AllReadyH.nil))
      · rw [if_pos (by rfl)]
        have c2 := HX.out.c2
        go_simp
        clear c2
        refine hK.out _ _ hk (fun _ => ?_)
        clear hK K
        try simp only [Act.put, List.setIfInBounds_toArray, List.set_cons_zero, List.set_cons_succ]
        refine wpAnyH_ready (rs := [6]) (by decide +kernel) (by simp) ?_
        refine AllReadyH.cons (o := ⟨some 69, .call { callee := .value (.func 77), args := #[.tmp 68], argTypes := #[3] }, 3, "wal.go:121", #[⟨5, .data⟩], none⟩) rfl (fun K hK => ?_) AllReadyH.nil
        go_simp
        refine (wsec_any fl _ (by omega)).mono ?_
        rintro e1 w8 ⟨rfl, rfl⟩
        refine hK.out _ _ hk (fun _ => ?_)
        clear hK K
        try simp only [Act.put, List.setIfInBounds_toArray, List.set_cons_zero, List.set_cons_succ]
        refine wpAnyH_take (i := 7) (oi := ⟨some 70, .binOp .add 3 (.tmp 66) (.tmp 69) 3, 3, "wal.go:121", #[⟨3, .data⟩, ⟨6, .data⟩], none⟩) (v := ?vwap157) rfl (by kernel_rfl) (by kernel_rfl) (by kernel_rfl) (fun _ _ _ h => h) (Or.inl ⟨by rfl, ?ywap157⟩) hk ?rwap157
        case ywap157 => (intro w hSw; (try dsimp only at hSw); go_simp; first | done | with_reducible rfl)
        simp only [Act.put, List.setIfInBounds_toArray, List.set_cons_zero, List.set_cons_succ]
        refine wpAnyH_take (i := 8) (oi := ⟨some 71, .nilCheck (.tmp 63), 0, "wal.go:121", #[⟨0, .data⟩, ⟨0, .phase⟩, ⟨1, .phase⟩, ⟨2, .phase⟩, ⟨3, .phase⟩, ⟨4, .phase⟩, ⟨5, .phase⟩, ⟨6, .phase⟩, ⟨7, .phase⟩], none⟩) (v := ?vwap158) rfl (by kernel_rfl) (by kernel_rfl) (by kernel_rfl) (fun _ _ _ h => h) (Or.inl ⟨by rfl, ?ywap158⟩) hk ?rwap158
        case ywap158 => (intro w hSw; (try dsimp only at hSw); go_simp; first | done | with_reducible rfl)
        simp only [Act.put, List.setIfInBounds_toArray, List.set_cons_zero, List.set_cons_succ]
        refine wpAnyH_take (i := 9) (oi := ⟨some 72, .fieldAddr 121 (.tmp 71) 2, 0, "wal.go:121", #[⟨8, .data⟩, ⟨0, .phase⟩, ⟨1, .phase⟩, ⟨2, .phase⟩, ⟨3, .phase⟩, ⟨4, .phase⟩, ⟨5, .phase⟩, ⟨6, .phase⟩, ⟨7, .phase⟩], none⟩) (v := ?vwap159) rfl (by kernel_rfl) (by kernel_rfl) (by kernel_rfl) (fun _ _ _ h => h) (Or.inl ⟨by rfl, ?ywap159⟩) hk ?rwap159
        case ywap159 => (intro w hSw; (try dsimp only at hSw); go_simp; first | done | with_reducible rfl)
        simp only [Act.put, List.setIfInBounds_toArray, List.set_cons_zero, List.set_cons_succ]
        refine wpAnyH_ready (rs := [10]) (by decide +kernel) (by simp) ?_
        refine AllReadyH.cons (o := ⟨none, .store 3 (.tmp 72) (.tmp 70), 0, "wal.go:121", #[⟨9, .data⟩, ⟨7, .data⟩, ⟨6, .chain⟩, ⟨0, .phase⟩, ⟨1, .phase⟩, ⟨2, .phase⟩, ⟨3, .phase⟩, ⟨4, .phase⟩, ⟨5, .phase⟩, ⟨6, .phase⟩, ⟨7, .phase⟩], none⟩) rfl (fun K hK => ?_) AllReadyH.nil
        rw [if_pos (by rfl)]
        have f2 := HX.out.fr 2
        have c2 := HX.out.c2
        go_simp
        clear f2 c2
        refine hK.out _ _ hk (fun _ => ?_)
        clear hK K
        try simp only [Act.put, List.setIfInBounds_toArray, List.set_cons_zero, List.set_cons_succ]
        refine wpAnyH_done (by decide +kernel) ?_ _
        have HL9 : Bx _ := ⟨HX.out.setNext (L.next + ns fl) HTO9.out HTN9.out (by omega)⟩
        have HK9 : Bx (Kept own2 wc (wk.setCell ⟨gl, 2, none⟩ (.int .i64 ((L.next + ns fl : Nat) : Int)))) := ⟨HK.out.setCell (.inl HX.out.og) 2 _⟩
        rw [show (L.next : Int) + ((ns fl : Nat) : Int) = ((L.next + ns fl : Nat) : Int) from by omega]
        generalize wk.setCell ⟨gl, 2, none⟩ (.int .i64 ((L.next + ns fl : Nat) : Int)) = wq at HL9 HK9 ⊢
        go_wp2
        go_ret
        exact ⟨by rw [HE.out]; rfl, HFIN.out _ _ HL9.out HK9.out⟩
      · go_simp
        refine (wsec_any fl _ (by omega)).mono ?_
        rintro e1 w8 ⟨rfl, rfl⟩
        refine hK.out _ _ hk (fun _ => ?_)
        clear hK K
        try simp only [Act.put, List.setIfInBounds_toArray, List.set_cons_zero, List.set_cons_succ]
        refine wpAnyH_ready (rs := [3]) (by decide +kernel) (by simp) ?_
        refine AllReadyH.cons (o := ⟨some 66, .load 3 (.tmp 65), 3, "wal.go:121", #[⟨2, .data⟩], none⟩) rfl (fun K hK => ?_) AllReadyH.nil
        rw [if_pos (by rfl)]
        have c2 := HX.out.c2
        go_simp
        clear c2
        refine hK.out _ _ hk (fun _ => ?_)
        clear hK K
        try simp only [Act.put, List.setIfInBounds_toArray, List.set_cons_zero, List.set_cons_succ]
        refine wpAnyH_take (i := 7) (oi := ⟨some 70, .binOp .add 3 (.tmp 66) (.tmp 69) 3, 3, "wal.go:121", #[⟨3, .data⟩, ⟨6, .data⟩], none⟩) (v := ?vwap1512) rfl (by kernel_rfl) (by kernel_rfl) (by kernel_rfl) (fun _ _ _ h => h) (Or.inl ⟨by rfl, ?ywap1512⟩) hk ?rwap1512
        case ywap1512 => (intro w hSw; (try dsimp only at hSw); go_simp; first | done | with_reducible rfl)
        simp only [Act.put, List.setIfInBounds_toArray, List.set_cons_zero, List.set_cons_succ]
        refine wpAnyH_take (i := 8) (oi := ⟨some 71, .nilCheck (.tmp 63), 0, "wal.go:121", #[⟨0, .data⟩, ⟨0, .phase⟩, ⟨1, .phase⟩, ⟨2, .phase⟩, ⟨3, .phase⟩, ⟨4, .phase⟩, ⟨5, .phase⟩, ⟨6, .phase⟩, ⟨7, .phase⟩], none⟩) (v := ?vwap1513) rfl (by kernel_rfl) (by kernel_rfl) (by kernel_rfl) (fun _ _ _ h => h) (Or.inl ⟨by rfl, ?ywap1513⟩) hk ?rwap1513
        case ywap1513 => (intro w hSw; (try dsimp only at hSw); go_simp; first | done | with_reducible rfl)
        simp only [Act.put, List.setIfInBounds_toArray, List.set_cons_zero, List.set_cons_succ]
        refine wpAnyH_take (i := 9) (oi := ⟨some 72, .fieldAddr 121 (.tmp 71) 2, 0, "wal.go:121", #[⟨8, .data⟩, ⟨0, .phase⟩, ⟨1, .phase⟩, ⟨2, .phase⟩, ⟨3, .phase⟩, ⟨4, .phase⟩, ⟨5, .phase⟩, ⟨6, .phase⟩, ⟨7, .phase⟩], none⟩) (v := ?vwap1514) rfl (by kernel_rfl) (by kernel_rfl) (by kernel_rfl) (fun _ _ _ h => h) (Or.inl ⟨by rfl, ?ywap1514⟩) hk ?rwap1514
        case ywap1514 => (intro w hSw; (try dsimp only at hSw); go_simp; first | done | with_reducible rfl)
        simp only [Act.put, List.setIfInBounds_toArray, List.set_cons_zero, List.set_cons_succ]
        refine wpAnyH_ready (rs := [10]) (by decide +kernel) (by simp) ?_
        refine AllReadyH.cons (o := ⟨none, .store 3 (.tmp 72) (.tmp 70), 0, "wal.go:121", #[⟨9, .data⟩, ⟨7, .data⟩, ⟨6, .chain⟩, ⟨0, .phase⟩, ⟨1, .phase⟩, ⟨2, .phase⟩, ⟨3, .phase⟩, ⟨4, .phase⟩, ⟨5, .phase⟩, ⟨6, .phase⟩, ⟨7, .phase⟩], none⟩) rfl (fun K hK => ?_) AllReadyH.nil
        rw [if_pos (by rfl)]
        have f2 := HX.out.fr 2
        have c2 := HX.out.c2
        go_simp
        clear f2 c2
        refine hK.out _ _ hk (fun _ => ?_)
        clear hK K
        try simp only [Act.put, List.setIfInBounds_toArray, List.set_cons_zero, List.set_cons_succ]
        refine wpAnyH_done (by decide +kernel) ?_ _
        have HL9 : Bx _ := ⟨HX.out.setNext (L.next + ns fl) HTO9.out HTN9.out (by omega)⟩
        have HK9 : Bx (Kept own2 wc (wk.setCell ⟨gl, 2, none⟩ (.int .i64 ((L.next + ns fl : Nat) : Int)))) := ⟨HK.out.setCell (.inl HX.out.og) 2 _⟩
        rw [show (L.next : Int) + ((ns fl : Nat) : Int) = ((L.next + ns fl : Nat) : Int) from by omega]
        generalize wk.setCell ⟨gl, 2, none⟩ (.int .i64 ((L.next + ns fl : Nat) : Int)) = wq at HL9 HK9 ⊢
        go_wp2
        go_ret
        exact ⟨by rw [HE.out]; rfl, HFIN.out _ _ HL9.out HK9.out⟩
  · have heb : ((L.wr s b).2 != 0) = true := by simpa using hE
    have HE : Bx ((L.wr s b).2 ≠ 0) := ⟨hE⟩
    have cf := hR5.c3
    have ff := hR5.fr 3
    have HFIN : Bx (APP s L b gl gd ownD ownL w (w5.setCell ⟨gl, 3, none⟩ (.bool true))) := ⟨APP.er HGO.out hE hdj HLLT.out HB4.out HDI5.out HD5.out hR5 rfl⟩
    clear hE hR5 HB5 HD5 HDI5
    obtain ⟨E, HEE⟩ : ∃ E, Bx (E = (L.wr s b).2) := ⟨_, ⟨rfl⟩⟩
    rw [← HEE.out] at heb ⊢
    go_wp2
    go_ret
    exact ⟨by rw [HEE.out]; rfl, HFIN.out⟩
set_option maxRecDepth 100000 in
theorem append_any (gl gd : Nat) (ownD ownL : Nat → Prop) (s : DS) (L : LS) (a : Option Addr) (len cap : Nat) (b : List Int) (w : World) (hD : Dsk w gd ownD s) (hLg : Lg w gl ownL gd L) (hbt : Bts w a len cap b)
    (hfar : 0 < len → ∀ p, a = some p → ¬ ownD p.block) (hdj : ∀ k, ownL k → ¬ ownD k) (hO : s.O.length ≤ 900000) :
    Calls Tryz.prog 45 #[.pointer (some ⟨gl, 0, none⟩), .slice a len cap] w fun e w' => e = .returned (.int .i64 (apE s L b)) ∧ APP s L b gl gd ownD ownL w w' := by
  have hl := hbt.len_eq
  have hno : ∀ {w' : World}, Below w.heap.size w w' → L.go s b = false → APP s L b gl gd ownD ownL w w' := fun {w'} hb hg => ⟨ownD, ownL, by rw [(ap_no hg).1]; exact hD.below hb, by rw [(ap_no hg).2]; exact hLg.below hb, Kept.of_below hb, fun k hk => .inl hk, fun k hk => .inl hk, hdj⟩
  by_cases hbig : 16384 < len
  · refine (append_big gl gd ownD ownL s L a len cap b w hD hLg hbt hbig).mono ?_
    rintro e w' ⟨rfl, hb⟩
    refine ⟨by unfold apE; rw [if_pos (by omega)], hno hb ?_⟩
    unfold LS.go; rw [decide_eq_false (by omega)]; rfl
  · by_cases hfull : s.F.length < L.next + ns (20 + len)
    · refine (append_full gl gd ownD ownL s L a len cap b w hD hLg hbt hbig hfull).mono ?_
      rintro e w' ⟨rfl, hb⟩
      refine ⟨by unfold apE; rw [if_neg (by omega), if_pos (by rw [hl]; exact hfull)], hno hb ?_⟩
      unfold LS.go; rw [decide_eq_false (p := L.next + ns (20 + b.length) ≤ s.F.length) (by rw [hl]; omega)]; simp
    · by_cases hfd : L.failed = true
      · refine (append_failed gl gd ownD ownL s L a len cap b w hD hLg hbt hbig hfull hfd).mono ?_
        rintro e w' ⟨rfl, hb⟩
        refine ⟨by unfold apE; rw [if_neg (by omega), if_neg (by rw [hl]; exact hfull), hfd]; rfl, hno hb ?_⟩
        unfold LS.go; rw [hfd]; simp
      · have hfd' : L.failed = false := by simpa using hfd
        refine (append_go gl gd ownD ownL s L a len cap b w hD hLg hbt hbig hfull hfd' hfar hdj hO).mono ?_
        rintro e w' ⟨rfl, hA⟩
        exact ⟨by unfold apE; rw [if_neg (by omega), if_neg (by rw [hl]; exact hfull), hfd']; rfl, hA⟩
end Go.Proofs.YtjnjokbdoendkaaGreat
