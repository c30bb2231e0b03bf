/- Append, walked. -/
import Derived.Test.YtjnjokbdoendkabSwb
namespace Go.Proofs.Ytjnjokbdoendkab
open Go.RowKit
set_option linter.unusedVariables false

set_option maxRecDepth 100000 in
theorem LgR.below {w w' : World} {gl : Nat} {own : Nat → Prop} {gd : Nat} {L : LS} {vt : Value} (h : LgR w gl own gd L vt) (hb : Below w.heap.size w w') : LgR w' gl own gd L vt := h.keep (fun k hk => hb.block k (h.lt k hk)) hb.size
set_option maxRecDepth 100000 in
theorem ptE_seq {n : Nat} {k : Nat} : ptE ((k : Int) + 1) n = if 16384 < n then 5 else 0 := by unfold ptE; rw [if_neg (by omega)]
set_option maxRecDepth 100000 in
set_option maxHeartbeats 1000000 in
theorem append_big (gl gd : Nat) (ownD ownL : Nat → Prop) (s : DS) (L : LS) (a : Option Addr) (len cap : Nat) (b : List Int) (w : World) (hD : Dsk w gd ownD s) (hLg : Lg w gl ownL gd L) (hbt : Bts w a len cap b) (hbig : 16384 < len) :
    Calls Try.prog 27 #[.pointer (some ⟨gl, 0, none⟩), .slice a len cap] w fun e w' => e = .returned (.int .i64 5) ∧ Below w.heap.size w w' := by
  obtain ⟨vt, hR⟩ := hLg
  obtain ⟨av, cv, rfl, _⟩ := hR.tl.form
  have c1 := hR.c1
  have H0 : Bx _ := ⟨hR.c0⟩
  have HR : Bx (LgR w gl ownL gd L (.slice av L.T.length cv)) := ⟨hR⟩
  have hTl : L.T.length ≤ 4096 := Nat.le_trans hR.tn hR.n2
  have hn2 := hR.n2
  have hbl := hbt.len_eq
  have HBT : Bx (Bts w a len cap b) := ⟨hbt⟩
  have HDK : Bx (Dsk w gd ownD s) := ⟨hD⟩
  have hdn2 := hD.ok.n2
  clear hR hbt hD
  go_enter Try.func27, Try.ntmps27
  go_wp2_with fail
  refine (lmade_yes gl gd _ H0.out).mono ?_
  rintro e w' ⟨rfl, rfl⟩
  go_wp2_with fail
  refine (number_any _ _ _ _ hTl).mono ?_
  rintro e w' ⟨rfl, rfl⟩
  go_wp2_with fail
  refine (put8_any ((L.T.length : Int) + 1) a len cap b _ (by omega) (by omega) HBT.out).mono ?_
  rintro e w3 ⟨v3, rfl, hown3, hb3⟩
  clear c1 H0
  rw [ptE_seq, hbl]
  rw [if_pos hbig]
  clear hown3
  go_wp2
  go_ret
  exact ⟨rfl, hb3⟩
set_option maxRecDepth 100000 in
set_option maxHeartbeats 1000000 in
theorem append_full (gl gd : Nat) (ownD ownL : Nat → Prop) (s : DS) (L : LS) (a : Option Addr) (len cap : Nat) (b : List Int) (w : World) (hD : Dsk w gd ownD s) (hLg : Lg w gl ownL gd L) (hbt : Bts w a len cap b) (hbig : ¬ 16384 < len) (hfull : s.F.length < L.next + ns (20 + len)) :
    Calls Try.prog 27 #[.pointer (some ⟨gl, 0, none⟩), .slice a len cap] w fun e w' => e = .returned (.int .i64 11) ∧ Below w.heap.size w w' := by
  obtain ⟨vt, hR⟩ := hLg
  obtain ⟨av, cv, rfl, _⟩ := hR.tl.form
  have c1 := hR.c1
  have H0 : Bx _ := ⟨hR.c0⟩
  have HR : Bx (LgR w gl ownL gd L (.slice av L.T.length cv)) := ⟨hR⟩
  have hTl : L.T.length ≤ 4096 := Nat.le_trans hR.tn hR.n2
  have hn2 := hR.n2
  have hbl := hbt.len_eq
  have HBT : Bx (Bts w a len cap b) := ⟨hbt⟩
  have HDK : Bx (Dsk w gd ownD s) := ⟨hD⟩
  have hdn2 := hD.ok.n2
  clear hR hbt hD
  go_enter Try.func27, Try.ntmps27
  go_wp2_with fail
  refine (lmade_yes gl gd _ H0.out).mono ?_
  rintro e w' ⟨rfl, rfl⟩
  go_wp2_with fail
  refine (number_any _ _ _ _ hTl).mono ?_
  rintro e w' ⟨rfl, rfl⟩
  go_wp2_with fail
  refine (put8_any ((L.T.length : Int) + 1) a len cap b _ (by omega) (by omega) HBT.out).mono ?_
  rintro e w3 ⟨v3, rfl, hown3, hb3⟩
  clear c1 H0
  rw [ptE_seq, hbl]
  rw [if_neg hbig]
  have hpl : ptL ((L.T.length : Int) + 1) b = frmL ((L.T.length : Int) + 1) b := ptL_ok (by rw [ptE_seq, hbl, if_neg hbig])
  rw [hpl, frmL_len, hbl] at hown3
  obtain ⟨a3, c3, rfl, hm3⟩ := Bts.of_owns hown3 (frmL_byt _ _ HBT.out.byt)
  have HM3 : Bx _ := ⟨hm3⟩
  have HO3 : Bx _ := ⟨hown3⟩
  have HB3 : Bx (Below w.heap.size w w3) := ⟨hb3⟩
  have hR3 := HR.out.below hb3
  have hk : w3.drew.cell? ⟨gl, 0, none⟩ = some (.pointer (some ⟨gd, 0, none⟩)) ∧ w3.drew.cell? ⟨gl, 2, none⟩ = some (.int .i64 (L.next : Int)) ∧ Dsk w3.drew gd ownD s := ⟨hR3.c0, hR3.c2, (HDK.out.below hb3).drewN 1⟩
  obtain ⟨fl, HFL⟩ : ∃ fl, Bx (fl = 20 + len) := ⟨_, ⟨rfl⟩⟩
  have hfl : fl ≤ 20000 := by rw [HFL.out]; omega
  rw [← HFL.out] at HM3 HO3 hm3 ⊢
  have hnsb : ns fl ≤ 1000 := by unfold ns; omega
  have hw1 : IntKind.i64.wrap ((L.next : Int) + ((ns fl : Nat) : Int)) = (L.next : Int) + ((ns fl : Nat) : Int) := IntWalk.i64_in _ (by omega)
  clear hown3 hm3 hb3 hR3 hpl
  replace HM3 : Bx (Bts w3.drew a3 fl c3 (frmL ((L.T.length : Int) + 1) b)) := ⟨HM3.out.drewN 1⟩
  replace HB3 : Bx (Below w.heap.size w w3.drew) := ⟨HB3.out.drew⟩
  rw [← HFL.out] at hfull
  have g1 : (s.F.length : Int) < (L.next : Int) + ((ns fl : Nat) : Int) := by omega
  go_wp2_with fail
  refine wp_region_held_drew (S := fun W => W.cell? ⟨gl, 0, none⟩ = some (.pointer (some ⟨gd, 0, none⟩)) ∧ W.cell? ⟨gl, 2, none⟩ = some (.int .i64 (L.next : Int)) ∧ Dsk W gd ownD s) (by kernel_rfl) hk (fun _ => ?_)
  generalize w3.drew = wd at hk HB3 ⊢
  refine wpAnyH_take (i := 0) (oi := { dst := some 24, op := Op.move (Operand.tmp 0), type := 51, pos := "wal.go:110", after := #[], guard := none }) (v := ?vwap61) rfl (by kernel_rfl) (by kernel_rfl) (by kernel_rfl) (fun _ _ _ h => h) (Or.inl ⟨by rfl, ?ywap61⟩) hk ?rwap61
  case ywap61 => (intro w hSw; (try dsimp only at hSw); go_simp; first | done | with_reducible rfl)
  simp only [Act.put, List.setIfInBounds_toArray, List.set_cons_zero, List.set_cons_succ]
  refine wpAnyH_take (i := 1) (oi := { dst := some 25, op := Op.nilCheck (Operand.tmp 24), type := 0, pos := "wal.go:110", after := #[{ on := 0, ground := Ground.data }], guard := none }) (v := ?vwap62) rfl (by kernel_rfl) (by kernel_rfl) (by kernel_rfl) (fun _ _ _ h => h) (Or.inl ⟨by rfl, ?ywap62⟩) hk ?rwap62
  case ywap62 => (intro w hSw; (try dsimp only at hSw); go_simp; first | done | with_reducible rfl)
  simp only [Act.put, List.setIfInBounds_toArray, List.set_cons_zero, List.set_cons_succ]
  refine wpAnyH_take (i := 2) (oi := { dst := some 26, op := Op.fieldAddr 89 (Operand.tmp 25) 2, type := 0, pos := "wal.go:110", after := #[{ on := 1, ground := Ground.data }], guard := none }) (v := ?vwap63) rfl (by kernel_rfl) (by kernel_rfl) (by kernel_rfl) (fun _ _ _ h => h) (Or.inl ⟨by rfl, ?ywap63⟩) hk ?rwap63
  case ywap63 => (intro w hSw; (try dsimp only at hSw); go_simp; first | done | with_reducible rfl)
  simp only [Act.put, List.setIfInBounds_toArray, List.set_cons_zero, List.set_cons_succ]
  refine wpAnyH_take (i := 3) (oi := { dst := some 27, op := Op.load 3 (Operand.tmp 26), type := 3, pos := "wal.go:110", after := #[{ on := 2, ground := Ground.data }], guard := none }) (v := ?vwap64) rfl (by kernel_rfl) (by kernel_rfl) (by kernel_rfl) (fun _ _ _ h => h) (Or.inl ⟨by rfl, ?ywap64⟩) hk ?rwap64
  case ywap64 => (intro w hSw; have hcw := hSw.2.1; clear hSw; go_simp; first | done | with_reducible rfl)
  simp only [Act.put, List.setIfInBounds_toArray, List.set_cons_zero, List.set_cons_succ]
  refine wpAnyH_take (i := 4) (oi := { dst := some 28, op := Op.move (Operand.tmp 5), type := 41, pos := "wal.go:110", after := #[], guard := none }) (v := ?vwap65) rfl (by kernel_rfl) (by kernel_rfl) (by kernel_rfl) (fun _ _ _ h => h) (Or.inl ⟨by rfl, ?ywap65⟩) hk ?rwap65
  case ywap65 => (intro w hSw; (try dsimp only at hSw); go_simp; first | done | with_reducible rfl)
  simp only [Act.put, List.setIfInBounds_toArray, List.set_cons_zero, List.set_cons_succ]
  refine wpAnyH_take (i := 5) (oi := { dst := some 29, op := Op.call { callee := Callee.builtin Builtin.len, args := #[Operand.tmp 28], argTypes := #[41] }, type := 3, pos := "wal.go:110", after := #[{ on := 4, ground := Ground.data }], guard := none }) (v := ?vwap66) rfl (by kernel_rfl) (by kernel_rfl) (by kernel_rfl) (fun _ _ _ h => h) (Or.inl ⟨by rfl, ?ywap66⟩) hk ?rwap66
  case ywap66 => (intro w hSw; (try dsimp only at hSw); go_simp; first | done | with_reducible rfl)
  simp only [Act.put, List.setIfInBounds_toArray, List.set_cons_zero, List.set_cons_succ]
  refine wpAnyH_take (i := 8) (oi := { dst := some 32, op := Op.move (Operand.tmp 0), type := 51, pos := "wal.go:110", after := #[], guard := none }) (v := ?vwap67) rfl (by kernel_rfl) (by kernel_rfl) (by kernel_rfl) (fun _ _ _ h => h) (Or.inl ⟨by rfl, ?ywap67⟩) hk ?rwap67
  case ywap67 => (intro w hSw; (try dsimp only at hSw); go_simp; first | done | with_reducible rfl)
  simp only [Act.put, List.setIfInBounds_toArray, List.set_cons_zero, List.set_cons_succ]
  refine wpAnyH_take (i := 9) (oi := { dst := some 33, op := Op.nilCheck (Operand.tmp 32), type := 0, pos := "wal.go:110", after := #[{ on := 8, ground := Ground.data }], guard := none }) (v := ?vwap68) rfl (by kernel_rfl) (by kernel_rfl) (by kernel_rfl) (fun _ _ _ h => h) (Or.inl ⟨by rfl, ?ywap68⟩) hk ?rwap68
  case ywap68 => (intro w hSw; (try dsimp only at hSw); go_simp; first | done | with_reducible rfl)
  simp only [Act.put, List.setIfInBounds_toArray, List.set_cons_zero, List.set_cons_succ]
  refine wpAnyH_take (i := 10) (oi := { dst := some 34, op := Op.fieldAddr 89 (Operand.tmp 33) 0, type := 0, pos := "wal.go:110", after := #[{ on := 9, ground := Ground.data }], guard := none }) (v := ?vwap69) rfl (by kernel_rfl) (by kernel_rfl) (by kernel_rfl) (fun _ _ _ h => h) (Or.inl ⟨by rfl, ?ywap69⟩) hk ?rwap69
  case ywap69 => (intro w hSw; (try dsimp only at hSw); go_simp; first | done | with_reducible rfl)
  simp only [Act.put, List.setIfInBounds_toArray, List.set_cons_zero, List.set_cons_succ]
  refine wpAnyH_take (i := 11) (oi := { dst := some 35, op := Op.load 25 (Operand.tmp 34), type := 25, pos := "wal.go:110", after := #[{ on := 10, ground := Ground.data }], guard := none }) (v := ?vwap610) rfl (by kernel_rfl) (by kernel_rfl) (by kernel_rfl) (fun _ _ _ h => h) (Or.inl ⟨by rfl, ?ywap610⟩) hk ?rwap610
  case ywap610 => (intro w hSw; have hcw := hSw.1; clear hSw; go_simp; first | done | with_reducible rfl)
  simp only [Act.put, List.setIfInBounds_toArray, List.set_cons_zero, List.set_cons_succ]
  refine wpAnyH_ready (rs := [6]) (by decide +kernel) (by simp) ?_
  refine AllReadyH.cons (o := { dst := some 30, op := Op.call { callee := Callee.value (Operand.func 51), args := #[Operand.tmp 29], argTypes := #[3] }, type := 3, pos := "wal.go:110", after := #[{ on := 5, ground := Ground.data }], guard := none }) rfl (fun K hK => ?_) AllReadyH.nil
  go_simp
  refine (wsec_any fl _ (by omega)).mono ?_
  rintro e1 w8 ⟨rfl, rfl⟩
  refine hK.out _ _ hk (fun _ => ?_)
  clear hK K
  try simp only [Act.put, List.setIfInBounds_toArray, List.set_cons_zero, List.set_cons_succ]
  refine wpAnyH_take (i := 7) (oi := { dst := some 31, op := Op.binOp BinOp.add 3 (Operand.tmp 27) (Operand.tmp 30) 3, type := 3, pos := "wal.go:110", after := #[{ on := 3, ground := Ground.data }, { on := 6, ground := Ground.data }], guard := none }) (v := ?vwap611) rfl (by kernel_rfl) (by kernel_rfl) (by kernel_rfl) (fun _ _ _ h => h) (Or.inl ⟨by rfl, ?ywap611⟩) hk ?rwap611
  case ywap611 => (intro w hSw; (try dsimp only at hSw); go_simp; first | done | with_reducible rfl)
  simp only [Act.put, List.setIfInBounds_toArray, List.set_cons_zero, List.set_cons_succ]
  refine wpAnyH_ready (rs := [12]) (by decide +kernel) (by simp) ?_
  refine AllReadyH.cons (o := { dst := some 36, op := Op.call { callee := Callee.value (Operand.func 39), args := #[Operand.tmp 35], argTypes := #[25] }, type := 3, pos := "wal.go:110", after := #[{ on := 11, ground := Ground.data }, { on := 6, ground := Ground.chain }], guard := none }) rfl (fun K hK => ?_) AllReadyH.nil
  go_simp
  refine (sectors_any gd ownD s _ hk.2.2).mono ?_
  rintro e1 w8 ⟨rfl, rfl⟩
  refine hK.out _ _ hk (fun _ => ?_)
  clear hK K
  try simp only [Act.put, List.setIfInBounds_toArray, List.set_cons_zero, List.set_cons_succ]
  refine wpAnyH_take (i := 13) (oi := { dst := some 37, op := Op.binOp BinOp.gtr 3 (Operand.tmp 31) (Operand.tmp 36) 3, type := 4, pos := "wal.go:110", after := #[{ on := 7, ground := Ground.data }, { on := 12, ground := Ground.data }], guard := none }) (v := ?vwap612) rfl (by kernel_rfl) (by kernel_rfl) (by kernel_rfl) (fun _ _ _ h => h) (Or.inl ⟨by rfl, ?ywap612⟩) hk ?rwap612
  case ywap612 => (intro w hSw; (try dsimp only at hSw); go_simp; first | done | with_reducible rfl)
  simp only [Act.put, List.setIfInBounds_toArray, List.set_cons_zero, List.set_cons_succ]
  refine wpAnyH_done (by decide +kernel) ?_ _
  clear hk
  go_wp2
  go_ret
  exact ⟨rfl, HB3.out⟩
set_option maxRecDepth 100000 in
set_option maxHeartbeats 1000000 in
theorem append_failed (gl gd : Nat) (ownD ownL : Nat → Prop) (s : DS) (L : LS) (a : Option Addr) (len cap : Nat) (b : List Int) (w : World) (hD : Dsk w gd ownD s) (hLg : Lg w gl ownL gd L) (hbt : Bts w a len cap b) (hbig : ¬ 16384 < len) (hfull : ¬ s.F.length < L.next + ns (20 + len)) (hfd : L.failed = true) :
    Calls Try.prog 27 #[.pointer (some ⟨gl, 0, none⟩), .slice a len cap] w fun e w' => e = .returned (.int .i64 14) ∧ Below w.heap.size w w' := by
  obtain ⟨vt, hR⟩ := hLg
  obtain ⟨av, cv, rfl, _⟩ := hR.tl.form
  have c1 := hR.c1
  have H0 : Bx _ := ⟨hR.c0⟩
  have HR : Bx (LgR w gl ownL gd L (.slice av L.T.length cv)) := ⟨hR⟩
  have hTl : L.T.length ≤ 4096 := Nat.le_trans hR.tn hR.n2
  have hn2 := hR.n2
  have hbl := hbt.len_eq
  have HBT : Bx (Bts w a len cap b) := ⟨hbt⟩
  have HDK : Bx (Dsk w gd ownD s) := ⟨hD⟩
  have hdn2 := hD.ok.n2
  clear hR hbt hD
  go_enter Try.func27, Try.ntmps27
  go_wp2_with fail
  refine (lmade_yes gl gd _ H0.out).mono ?_
  rintro e w' ⟨rfl, rfl⟩
  go_wp2_with fail
  refine (number_any _ _ _ _ hTl).mono ?_
  rintro e w' ⟨rfl, rfl⟩
  go_wp2_with fail
  refine (put8_any ((L.T.length : Int) + 1) a len cap b _ (by omega) (by omega) HBT.out).mono ?_
  rintro e w3 ⟨v3, rfl, hown3, hb3⟩
  clear c1 H0
  rw [ptE_seq, hbl]
  rw [if_neg hbig]
  have hpl : ptL ((L.T.length : Int) + 1) b = frmL ((L.T.length : Int) + 1) b := ptL_ok (by rw [ptE_seq, hbl, if_neg hbig])
  rw [hpl, frmL_len, hbl] at hown3
  obtain ⟨a3, c3, rfl, hm3⟩ := Bts.of_owns hown3 (frmL_byt _ _ HBT.out.byt)
  have HM3 : Bx _ := ⟨hm3⟩
  have HO3 : Bx _ := ⟨hown3⟩
  have HB3 : Bx (Below w.heap.size w w3) := ⟨hb3⟩
  have hR3 := HR.out.below hb3
  have hk : w3.drew.cell? ⟨gl, 0, none⟩ = some (.pointer (some ⟨gd, 0, none⟩)) ∧ w3.drew.cell? ⟨gl, 2, none⟩ = some (.int .i64 (L.next : Int)) ∧ Dsk w3.drew gd ownD s := ⟨hR3.c0, hR3.c2, (HDK.out.below hb3).drewN 1⟩
  obtain ⟨fl, HFL⟩ : ∃ fl, Bx (fl = 20 + len) := ⟨_, ⟨rfl⟩⟩
  have hfl : fl ≤ 20000 := by rw [HFL.out]; omega
  rw [← HFL.out] at HM3 HO3 hm3 ⊢
  have hnsb : ns fl ≤ 1000 := by unfold ns; omega
  have hw1 : IntKind.i64.wrap ((L.next : Int) + ((ns fl : Nat) : Int)) = (L.next : Int) + ((ns fl : Nat) : Int) := IntWalk.i64_in _ (by omega)
  clear hown3 hm3 hb3 hR3 hpl
  replace HM3 : Bx (Bts w3.drew a3 fl c3 (frmL ((L.T.length : Int) + 1) b)) := ⟨HM3.out.drewN 1⟩
  replace HB3 : Bx (Below w.heap.size w w3.drew) := ⟨HB3.out.drew⟩
  rw [← HFL.out] at hfull
  have g1 : ¬ (s.F.length : Int) < (L.next : Int) + ((ns fl : Nat) : Int) := by omega
  go_wp2_with fail
  refine wp_region_held_drew (S := fun W => W.cell? ⟨gl, 0, none⟩ = some (.pointer (some ⟨gd, 0, none⟩)) ∧ W.cell? ⟨gl, 2, none⟩ = some (.int .i64 (L.next : Int)) ∧ Dsk W gd ownD s) (by kernel_rfl) hk (fun _ => ?_)
  generalize w3.drew = wd at hk HB3 ⊢
  refine wpAnyH_take (i := 0) (oi := { dst := some 24, op := Op.move (Operand.tmp 0), type := 51, pos := "wal.go:110", after := #[], guard := none }) (v := ?vwap61) rfl (by kernel_rfl) (by kernel_rfl) (by kernel_rfl) (fun _ _ _ h => h) (Or.inl ⟨by rfl, ?ywap61⟩) hk ?rwap61
  case ywap61 => (intro w hSw; (try dsimp only at hSw); go_simp; first | done | with_reducible rfl)
  simp only [Act.put, List.setIfInBounds_toArray, List.set_cons_zero, List.set_cons_succ]
  refine wpAnyH_take (i := 1) (oi := { dst := some 25, op := Op.nilCheck (Operand.tmp 24), type := 0, pos := "wal.go:110", after := #[{ on := 0, ground := Ground.data }], guard := none }) (v := ?vwap62) rfl (by kernel_rfl) (by kernel_rfl) (by kernel_rfl) (fun _ _ _ h => h) (Or.inl ⟨by rfl, ?ywap62⟩) hk ?rwap62
  case ywap62 => (intro w hSw; (try dsimp only at hSw); go_simp; first | done | with_reducible rfl)
  simp only [Act.put, List.setIfInBounds_toArray, List.set_cons_zero, List.set_cons_succ]
  refine wpAnyH_take (i := 2) (oi := { dst := some 26, op := Op.fieldAddr 89 (Operand.tmp 25) 2, type := 0, pos := "wal.go:110", after := #[{ on := 1, ground := Ground.data }], guard := none }) (v := ?vwap63) rfl (by kernel_rfl) (by kernel_rfl) (by kernel_rfl) (fun _ _ _ h => h) (Or.inl ⟨by rfl, ?ywap63⟩) hk ?rwap63
  case ywap63 => (intro w hSw; (try dsimp only at hSw); go_simp; first | done | with_reducible rfl)
  simp only [Act.put, List.setIfInBounds_toArray, List.set_cons_zero, List.set_cons_succ]
  refine wpAnyH_take (i := 3) (oi := { dst := some 27, op := Op.load 3 (Operand.tmp 26), type := 3, pos := "wal.go:110", after := #[{ on := 2, ground := Ground.data }], guard := none }) (v := ?vwap64) rfl (by kernel_rfl) (by kernel_rfl) (by kernel_rfl) (fun _ _ _ h => h) (Or.inl ⟨by rfl, ?ywap64⟩) hk ?rwap64
  case ywap64 => (intro w hSw; have hcw := hSw.2.1; clear hSw; go_simp; first | done | with_reducible rfl)
  simp only [Act.put, List.setIfInBounds_toArray, List.set_cons_zero, List.set_cons_succ]
  refine wpAnyH_take (i := 4) (oi := { dst := some 28, op := Op.move (Operand.tmp 5), type := 41, pos := "wal.go:110", after := #[], guard := none }) (v := ?vwap65) rfl (by kernel_rfl) (by kernel_rfl) (by kernel_rfl) (fun _ _ _ h => h) (Or.inl ⟨by rfl, ?ywap65⟩) hk ?rwap65
  case ywap65 => (intro w hSw; (try dsimp only at hSw); go_simp; first | done | with_reducible rfl)
  simp only [Act.put, List.setIfInBounds_toArray, List.set_cons_zero, List.set_cons_succ]
  refine wpAnyH_take (i := 5) (oi := { dst := some 29, op := Op.call { callee := Callee.builtin Builtin.len, args := #[Operand.tmp 28], argTypes := #[41] }, type := 3, pos := "wal.go:110", after := #[{ on := 4, ground := Ground.data }], guard := none }) (v := ?vwap66) rfl (by kernel_rfl) (by kernel_rfl) (by kernel_rfl) (fun _ _ _ h => h) (Or.inl ⟨by rfl, ?ywap66⟩) hk ?rwap66
  case ywap66 => (intro w hSw; (try dsimp only at hSw); go_simp; first | done | with_reducible rfl)
  simp only [Act.put, List.setIfInBounds_toArray, List.set_cons_zero, List.set_cons_succ]
  refine wpAnyH_take (i := 8) (oi := { dst := some 32, op := Op.move (Operand.tmp 0), type := 51, pos := "wal.go:110", after := #[], guard := none }) (v := ?vwap67) rfl (by kernel_rfl) (by kernel_rfl) (by kernel_rfl) (fun _ _ _ h => h) (Or.inl ⟨by rfl, ?ywap67⟩) hk ?rwap67
  case ywap67 => (intro w hSw; (try dsimp only at hSw); go_simp; first | done | with_reducible rfl)
  simp only [Act.put, List.setIfInBounds_toArray, List.set_cons_zero, List.set_cons_succ]
  refine wpAnyH_take (i := 9) (oi := { dst := some 33, op := Op.nilCheck (Operand.tmp 32), type := 0, pos := "wal.go:110", after := #[{ on := 8, ground := Ground.data }], guard := none }) (v := ?vwap68) rfl (by kernel_rfl) (by kernel_rfl) (by kernel_rfl) (fun _ _ _ h => h) (Or.inl ⟨by rfl, ?ywap68⟩) hk ?rwap68
  case ywap68 => (intro w hSw; (try dsimp only at hSw); go_simp; first | done | with_reducible rfl)
  simp only [Act.put, List.setIfInBounds_toArray, List.set_cons_zero, List.set_cons_succ]
  refine wpAnyH_take (i := 10) (oi := { dst := some 34, op := Op.fieldAddr 89 (Operand.tmp 33) 0, type := 0, pos := "wal.go:110", after := #[{ on := 9, ground := Ground.data }], guard := none }) (v := ?vwap69) rfl (by kernel_rfl) (by kernel_rfl) (by kernel_rfl) (fun _ _ _ h => h) (Or.inl ⟨by rfl, ?ywap69⟩) hk ?rwap69
  case ywap69 => (intro w hSw; (try dsimp only at hSw); go_simp; first | done | with_reducible rfl)
  simp only [Act.put, List.setIfInBounds_toArray, List.set_cons_zero, List.set_cons_succ]
  refine wpAnyH_take (i := 11) (oi := { dst := some 35, op := Op.load 25 (Operand.tmp 34), type := 25, pos := "wal.go:110", after := #[{ on := 10, ground := Ground.data }], guard := none }) (v := ?vwap610) rfl (by kernel_rfl) (by kernel_rfl) (by kernel_rfl) (fun _ _ _ h => h) (Or.inl ⟨by rfl, ?ywap610⟩) hk ?rwap610
  case ywap610 => (intro w hSw; have hcw := hSw.1; clear hSw; go_simp; first | done | with_reducible rfl)
  simp only [Act.put, List.setIfInBounds_toArray, List.set_cons_zero, List.set_cons_succ]
  refine wpAnyH_ready (rs := [6]) (by decide +kernel) (by simp) ?_
  refine AllReadyH.cons (o := { dst := some 30, op := Op.call { callee := Callee.value (Operand.func 51), args := #[Operand.tmp 29], argTypes := #[3] }, type := 3, pos := "wal.go:110", after := #[{ on := 5, ground := Ground.data }], guard := none }) rfl (fun K hK => ?_) AllReadyH.nil
  go_simp
  refine (wsec_any fl _ (by omega)).mono ?_
  rintro e1 w8 ⟨rfl, rfl⟩
  refine hK.out _ _ hk (fun _ => ?_)
  clear hK K
  try simp only [Act.put, List.setIfInBounds_toArray, List.set_cons_zero, List.set_cons_succ]
  refine wpAnyH_take (i := 7) (oi := { dst := some 31, op := Op.binOp BinOp.add 3 (Operand.tmp 27) (Operand.tmp 30) 3, type := 3, pos := "wal.go:110", after := #[{ on := 3, ground := Ground.data }, { on := 6, ground := Ground.data }], guard := none }) (v := ?vwap611) rfl (by kernel_rfl) (by kernel_rfl) (by kernel_rfl) (fun _ _ _ h => h) (Or.inl ⟨by rfl, ?ywap611⟩) hk ?rwap611
  case ywap611 => (intro w hSw; (try dsimp only at hSw); go_simp; first | done | with_reducible rfl)
  simp only [Act.put, List.setIfInBounds_toArray, List.set_cons_zero, List.set_cons_succ]
  refine wpAnyH_ready (rs := [12]) (by decide +kernel) (by simp) ?_
  refine AllReadyH.cons (o := { dst := some 36, op := Op.call { callee := Callee.value (Operand.func 39), args := #[Operand.tmp 35], argTypes := #[25] }, type := 3, pos := "wal.go:110", after := #[{ on := 11, ground := Ground.data }, { on := 6, ground := Ground.chain }], guard := none }) rfl (fun K hK => ?_) AllReadyH.nil
  go_simp
  refine (sectors_any gd ownD s _ hk.2.2).mono ?_
  rintro e1 w8 ⟨rfl, rfl⟩
  refine hK.out _ _ hk (fun _ => ?_)
  clear hK K
  try simp only [Act.put, List.setIfInBounds_toArray, List.set_cons_zero, List.set_cons_succ]
  refine wpAnyH_take (i := 13) (oi := { dst := some 37, op := Op.binOp BinOp.gtr 3 (Operand.tmp 31) (Operand.tmp 36) 3, type := 4, pos := "wal.go:110", after := #[{ on := 7, ground := Ground.data }, { on := 12, ground := Ground.data }], guard := none }) (v := ?vwap612) rfl (by kernel_rfl) (by kernel_rfl) (by kernel_rfl) (fun _ _ _ h => h) (Or.inl ⟨by rfl, ?ywap612⟩) hk ?rwap612
  case ywap612 => (intro w hSw; (try dsimp only at hSw); go_simp; first | done | with_reducible rfl)
  simp only [Act.put, List.setIfInBounds_toArray, List.set_cons_zero, List.set_cons_succ]
  refine wpAnyH_done (by decide +kernel) ?_ _
  clear hk
  have cf := (HR.out.below HB3.out).c3
  rw [hfd] at cf
  go_wp2
  go_ret
  exact ⟨rfl, HB3.out⟩
end Go.Proofs.Ytjnjokbdoendkab
