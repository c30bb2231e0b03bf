/- Logs at rest; that any text is kept at all; two lists of texts that are the same. -/
import Derived.Test.YtigaciflbgbolaaLaw10
namespace Go.Proofs.Ytigaciflbgbolaa
open Go.RowKit
set_option linter.unusedVariables false

/-- the log at rest that has these texts -/
def lgs (T : List (List Int)) : LS := ⟨T, (FrS 0 T).length, false⟩
set_option maxRecDepth 100000 in
theorem ap_cases {s : DS} {T : List (List Int)} {b : List Int} (h : Rest s T) (hb : Byt b) :
    (s.armed = false → (apS s (lgs T) b).armed = false) ∧ (apS s (lgs T) b).F.length = s.F.length ∧
    ((apE s (lgs T) b = 0 ∧ Rest (apS s (lgs T) b) (T ++ [b]) ∧ apL s (lgs T) b = lgs (T ++ [b]) ∧ b.length ≤ 16384 ∧ (FrS 0 T).length + ns (20 + b.length) ≤ s.F.length) ∨
     (apE s (lgs T) b = 14 ∧ s.armed = true ∧ (apS s (lgs T) b).off = true ∧ (apS s (lgs T) b).O.length ≤ s.F.length ∧ apL s (lgs T) b = ⟨T, (FrS 0 T).length, true⟩ ∧ b.length ≤ 16384 ∧ ∀ K, Lay T (app (apS s (lgs T) b).F (kpt (apS s (lgs T) b).O K)) ∨ Lay (T ++ [b]) (app (apS s (lgs T) b).F (kpt (apS s (lgs T) b).O K))) ∨
     ((apE s (lgs T) b = 5 ∨ apE s (lgs T) b = 11) ∧ apS s (lgs T) b = s ∧ apL s (lgs T) b = lgs T ∧ (16384 < b.length ∨ s.F.length < (FrS 0 T).length + ns (20 + b.length)))) := by
  by_cases hgo : (lgs T).go s b = true
  · obtain ⟨g1, g2, _⟩ := LS.go_iff.1 hgo
    have g2' : (FrS 0 T).length + ns (20 + b.length) ≤ s.F.length := g2
    obtain ⟨e1, e2⟩ := ap_yes hgo
    obtain ⟨a1, a2, a3⟩ := apW_rest h g1 hb g2'
    have hw : (lgs T).wr s b = s.apW (FrS 0 T).length (prt (frmL ((T.length : Int) + 1) b)) := rfl
    rw [← hw] at a1 a2 a3
    rw [e1, e2]
    refine ⟨fun ha => (a1 ha).2, a2, ?_⟩
    rcases a3 with ⟨b1, b2⟩ | ⟨b1, b2, b3, b4⟩
    · refine .inl ⟨b1, b2, ?_, g1, g2'⟩
      rw [ap_ok hgo b1]
      show (⟨T ++ [b], (FrS 0 T).length + ns (20 + b.length), false⟩ : LS) = ⟨T ++ [b], (FrS 0 (T ++ [b])).length, false⟩
      rw [FrS_snoc, List.length_append, chk_len, frmL_len]
    · refine .inr (.inl ⟨b1, ?_, b2, b3, ?_, g1, b4⟩)
      · cases ha : s.armed with
        | true => rfl
        | false => have := (a1 ha).1; omega
      · rw [ap_er hgo (by rw [b1]; decide)]; rfl
  · have hgo' : (lgs T).go s b = false := by simpa using hgo
    obtain ⟨e1, e2⟩ := ap_no hgo'
    rw [e1, e2]
    refine ⟨fun h => h, rfl, .inr (.inr ⟨?_, rfl, rfl, ?_⟩)⟩
    · unfold apE
      by_cases h1 : 16384 < b.length
      · rw [if_pos h1]; exact .inl rfl
      · rw [if_neg h1]
        by_cases h2 : s.F.length < (lgs T).next + ns (20 + b.length)
        · rw [if_pos h2]; exact .inr rfl
        · exact absurd (LS.go_iff.2 ⟨by omega, by omega, rfl⟩) hgo
    · by_cases h1 : 16384 < b.length
      · exact .inl h1
      · refine .inr (Classical.byContradiction fun h2 => hgo (LS.go_iff.2 ⟨by omega, ?_, rfl⟩))
        show (FrS 0 T).length + _ ≤ _
        omega
set_option maxRecDepth 100000 in
theorem rest_new (n : Nat) : Rest (dnew n) [] := ⟨rfl, rfl, TOk.nil, n, rfl⟩
set_option maxRecDepth 100000 in
theorem Rest.now {s : DS} {T : List (List Int)} (h : Rest s T) : s.now = s.F := by unfold DS.now; rw [h.o]; rfl
set_option maxRecDepth 100000 in
theorem Rest.rd {s : DS} {T : List (List Int)} (h : Rest s T) (hok : s.Ok) : rdF s.now = some (T, (FrS 0 T).length) := by
  rw [h.now]; exact rd_lay hok.f h.lay h.t hok.n2
set_option maxRecDepth 100000 in
theorem Rest.ar {s : DS} {T : List (List Int)} (h : Rest s T) (n : Int) : Rest (s.ar n) T := by
  have e : (s.ar n).off = false ∧ (s.ar n).O = [] ∧ (s.ar n).F = s.F := by
    unfold DS.ar
    rw [h.off]
    by_cases h1 : n < 0
    · simp only [if_pos h1]; exact ⟨h.off, h.o, rfl⟩
    · rw [if_neg (by decide), if_neg h1]; exact ⟨rfl, h.o, rfl⟩
  exact ⟨e.1, e.2.1, h.t, by rw [e.2.2]; exact h.f⟩
set_option maxRecDepth 100000 in
theorem rest_next {s : DS} {T : List (List Int)} (h : Rest s T) : (FrS 0 T).length ≤ s.F.length := by
  obtain ⟨z, hz⟩ := h.f
  rw [hz, List.length_append]; omega
set_option maxRecDepth 100000 in
/-- Open of a disk at rest: nothing is written -/
theorem wopen_rest (g : Nat) (own : Nat → Prop) (s : DS) (w : World) (T : List (List Int)) (hD : Dsk w g own s) (h : Rest s T) :
    Calls Try.prog 12 #[.pointer (some ⟨g, 0, none⟩)] w fun e w' => ∃ gl, e = .returned (.tuple #[.pointer (some ⟨gl, 0, none⟩), .int .i64 0]) ∧ ∃ own' ownL, Dsk w' g own' s ∧ Did own w w' own' ∧ Lg w' gl ownL g (lgs T) ∧ (∀ k, ownL k → w.heap.size ≤ k) ∧ (∀ k, ownL k → ¬ own' k) := by
  obtain ⟨e1, e2⟩ := wip_rest h
  have := wopen_ok g own s w T (FrS 0 T).length hD h.off (h.rd hD.ok) (by rw [h.o]; exact Nat.zero_le _) e1
  rw [e2] at this
  exact this
set_option maxRecDepth 100000 in
set_option maxHeartbeats 1000000 in
theorem lives_any (w : World) :
    Calls Try.prog 29 #[] w fun e w' => e = .returned (.bool true) ∧ Below w.heap.size w w' := by
  go_enter Try.func29, Try.ntmps29
  go_wp2_with fail
  refine (new_any 2 _ (by decide) (by decide)).mono ?_
  rintro e w1 ⟨g, rfl, hD, hb1⟩
  obtain ⟨own, hown⟩ : ∃ own : Nat → Prop, own = fun k => w.heap.size ≤ k ∧ k < w1.heap.size := ⟨_, rfl⟩
  rw [← hown] at hD
  have HO : Bx (∀ k, own k → w.heap.size ≤ k) := ⟨fun k h => by rw [hown] at h; exact h.1⟩
  clear hown
  go_wp2_with fail
  refine (wopen_rest g own (dnew 2) _ [] hD (rest_new 2)).mono ?_
  rintro e w2 ⟨gl, rfl, own2, ownL, hD2, hdid, hL, hlo, hdj⟩
  have HD2 : Bx _ := ⟨hD2⟩
  have HL : Bx _ := ⟨hL⟩
  have HDJ : Bx _ := ⟨hdj⟩
  have hlow2 : Below w.heap.size w w2 := hb1.trans (hdid.kept.low HO.out hb1.size)
  have HO2 : Bx (∀ k, own2 k → w.heap.size ≤ k) := ⟨fun k h => by
    rcases hdid.new k h with h1 | h1
    · exact HO.out k h1
    · have := hb1.size; omega⟩
  have HOL : Bx (∀ k, ownL k → w.heap.size ≤ k) := ⟨fun k h => by have := hlo k h; have := hb1.size; omega⟩
  have HLOW : Bx _ := ⟨hlow2⟩
  have hm : Bts (w2.alloc (.cells #[.int .u8 97] 5 (1, 2))) (some ⟨w2.heap.size, 0, none⟩) 1 1 [97] := bts_const w2 [97] (by intro c hc; simp only [List.mem_singleton] at hc; omega) (1, 2) (by decide)
  have hcv : (convert 38 38 (.slice (some ⟨w2.heap.size, 0, none⟩) 1 1)).run Try.prog (w2.alloc (.cells #[.int .u8 97] 5)) = .ok (.slice (some ⟨w2.heap.size, 0, none⟩) 1 1) (w2.alloc (.cells #[.int .u8 97] 5 (1, 2))) := Lib.run_convert_bytes_const w2 _ _ _ 1 1 Try.underlying38 Try.underlying5
  have hba : Below w2.heap.size w2 (w2.alloc (.cells #[.int .u8 97] 5 (1, 2))) := (Below.refl _ _).alloc (Nat.le_refl _) _
  have HFAR : Bx (0 < 1 → ∀ p, some (⟨w2.heap.size, 0, none⟩ : Addr) = some p → ¬ own2 p.block) := ⟨fun _ p e ho => by cases e; exact absurd (HD2.out.lt _ ho) (Nat.lt_irrefl _)⟩
  clear hD hdid hlo hdj hL hD2 hlow2 hb1 HO
  generalize w2.alloc (.cells #[.int .u8 97] 5 (1, 2)) = w3 at hm hcv hba
  obtain ⟨_, _, hc⟩ := ap_cases (rest_new 2) (b := [97]) (by intro c hc; simp only [List.mem_singleton] at hc; omega)
  have hap : apE (dnew 2) (lgs []) [97] = 0 ∧ apL (dnew 2) (lgs []) [97] = lgs [[97]] := by
    rcases hc with ⟨h1, _, h3, _⟩ | ⟨_, h2, _⟩ | ⟨_, _, _, h4⟩
    · exact ⟨h1, h3⟩
    · cases h2
    · have e : (FrS 0 []).length = 0 := rfl
      have e2 : (dnew 2).F.length = 2 := by simp [dnew]
      have e3 : ns (20 + ([97] : List Int).length) = 1 := by decide
      have e4 : ([97] : List Int).length = 1 := rfl
      rw [e, e2, e3, e4] at h4
      omega
  have HAP : Bx _ := ⟨hap⟩
  clear hc hap
  go_wp2_with fail
  refine (append_any gl g own2 ownL (dnew 2) (lgs []) _ 1 1 [97] _ (HD2.out.below hba) (HL.out.below hba) hm HFAR.out HDJ.out (by simp [dnew])).mono ?_
  rintro e w4 ⟨rfl, ownD4, ownL4, hD4, hL4, hdid4⟩
  rw [HAP.out.1]
  rw [HAP.out.2] at hL4
  have hlow3 := bstep HLOW.out hba
  have HL4 : Bx _ := ⟨hL4⟩
  have HLOW4 : Bx (Below w.heap.size w w4) := ⟨hlow3.trans (hdid4.kept.low (fun k hk => by rcases hk with h | h; exact HO2.out k h; exact HOL.out k h) hlow3.size)⟩
  clear hcv hm hba hD4 hL4 hdid4 HD2 HL HLOW hlow3 HFAR HO2 HOL
  go_wp2_with fail
  refine (texts_any gl g ownL4 (lgs [[97]]) _ HL4.out).mono ?_
  rintro e w5 ⟨v5, rfl, hT5, hb5⟩
  obtain ⟨a5, c5, rfl, _⟩ := hT5.form
  have HL5 : Bx _ := ⟨HL4.out.below hb5⟩
  have HLOW5 : Bx _ := ⟨bstep HLOW4.out hb5⟩
  have e1 : (lgs [[97]]).T.length = 1 := rfl
  have e2 : Bx ((lgs [[97]]).next = 1) := ⟨by
    show (FrS 0 [[97]]).length = 1
    show (chk (frmL (((0 : Nat) : Int) + 1) [97]) ++ []).length = 1
    rw [List.append_nil, chk_len, frmL_len]; rfl⟩
  rw [e1]
  clear hT5 hb5 HL4 HLOW4 e1
  go_wp2_with fail
  refine (next_any gl g ownL4 (lgs [[97]]) _ HL5.out).mono ?_
  rintro e w' ⟨rfl, rfl⟩
  rw [e2.out]
  go_wp2
  go_ret
  exact ⟨rfl, HLOW5.out⟩
set_option maxRecDepth 100000 in
set_option maxHeartbeats 1000000 in
theorem tsame_yes (a b : Option Addr) (n c d : Nat) (T : List (List Int)) (w : World) (ha : Txs w a n c T) (hb : Txs w b n d T) :
    Calls Try.prog 36 #[.slice a n c, .slice b n d] w fun e w' => e = .returned (.bool true) ∧ ∃ q, w' = w.drewN q := by
  have hc1 := ha.le_cap
  have hc2 := ha.cap_le
  unfold maxLen at hc2
  have hq : ((n : Int) != (n : Int)) = false := by simp
  go_enter Try.func36, Try.ntmps36
  go_wp2
  go_loopw [5] (fun i wr => ∃ k q : Nat, k ≤ n ∧ i = .int .i64 k ∧ wr = w.drewN q) (fun i _ => n - (intOf i).toNat)
  case atStart => exact ⟨0, 0, Nat.zero_le _, rfl, rfl⟩
  case round =>
    obtain ⟨k, q, hk, rfl, hwr⟩ := hrel
    have HW : Hid (wr = w.drewN q) := hwr
    by_cases hlt : k < n
    · have ha1 : Txs wr a n c T := by rw [hwr]; exact ha.drewN q
      have hb1 : Txs wr b n d T := by rw [hwr]; exact hb.drewN q
      clear hwr
      obtain ⟨b1, o1, rfl, _, h1⟩ := ha1.spot (by omega)
      obtain ⟨b2, o2, rfl, _, h2⟩ := hb1.spot (by omega)
      obtain ⟨ai, li, ci, r1, t1⟩ := h1 k hlt
      obtain ⟨aj, lj, cj, r2, t2⟩ := h2 k hlt
      generalize T.getD k [] = t at t1 t2
      have hki : (k : Int) < (n : Int) := by omega
      clear h1 h2 ha1 hb1
      have hk : wr.drew.cell? ⟨b1, o1 + k, none⟩ = some (.slice ai li ci) ∧ wr.drew.cell? ⟨b2, o2 + k, none⟩ = some (.slice aj lj cj) ∧ Bts wr.drew ai li ci t ∧ Bts wr.drew aj lj cj t := ⟨r1, r2, t1.drewN 1, t2.drewN 1⟩
      have HQ : Hid (wr.drew = w.drewN (q + 1)) := by show _ = _; rw [HW.out]; rfl
      clear r1 r2 HW t1 t2
      go_wp2_with fail
      refine wp_region_held_drew (S := fun W => W.cell? ⟨b1, o1 + k, none⟩ = some (.slice ai li ci) ∧ W.cell? ⟨b2, o2 + k, none⟩ = some (.slice aj lj cj) ∧ Bts W ai li ci t ∧ Bts W aj lj cj t) (by kernel_rfl) hk (fun _ => ?_)
      generalize wr.drew = wd at hk HQ ⊢
      refine wpAnyH_take (i := 0) (oi := { dst := some 17, op := Op.move (Operand.tmp 0), type := 60, pos := "ref.go:48", after := #[], guard := none }) (v := ?vtsame1) rfl (by kernel_rfl) (by kernel_rfl) (by kernel_rfl) (fun _ _ _ h => h) (Or.inl ⟨by rfl, ?ytsame1⟩) hk ?rtsame1
      case ytsame1 => (intro w hSw; (try dsimp only at hSw); go_simp; first | done | with_reducible rfl)
      simp only [Act.put, List.setIfInBounds_toArray, List.set_cons_zero, List.set_cons_succ]
      refine wpAnyH_take (i := 1) (oi := { dst := some 18, op := Op.move (Operand.tmp 5), type := 3, pos := "ref.go:48", after := #[], guard := none }) (v := ?vtsame2) rfl (by kernel_rfl) (by kernel_rfl) (by kernel_rfl) (fun _ _ _ h => h) (Or.inl ⟨by rfl, ?ytsame2⟩) hk ?rtsame2
      case ytsame2 => (intro w hSw; (try dsimp only at hSw); go_simp; first | done | with_reducible rfl)
      simp only [Act.put, List.setIfInBounds_toArray, List.set_cons_zero, List.set_cons_succ]
      refine wpAnyH_take (i := 2) (oi := { dst := some 19, op := Op.indexAddr 60 (Operand.tmp 17) (Operand.tmp 18), type := 0, pos := "ref.go:48", after := #[{ on := 0, ground := Ground.data }, { on := 1, ground := Ground.data }], guard := none }) (v := ?vtsame3) rfl (by kernel_rfl) (by kernel_rfl) (by kernel_rfl) (fun _ _ _ h => h) (Or.inl ⟨by rfl, ?ytsame3⟩) hk ?rtsame3
      case ytsame3 => (intro w hSw; (try dsimp only at hSw); go_simp; first | done | with_reducible rfl)
      simp only [Act.put, List.setIfInBounds_toArray, List.set_cons_zero, List.set_cons_succ]
      refine wpAnyH_take (i := 3) (oi := { dst := some 20, op := Op.load 38 (Operand.tmp 19), type := 38, pos := "ref.go:48", after := #[{ on := 2, ground := Ground.data }], guard := none }) (v := ?vtsame4) rfl (by kernel_rfl) (by kernel_rfl) (by kernel_rfl) (fun _ _ _ h => h) (Or.inl ⟨by rfl, ?ytsame4⟩) hk ?rtsame4
      case ytsame4 => (intro w hSw; have hcw := hSw.1; clear hSw; go_simp; first | done | with_reducible rfl)
      simp only [Act.put, List.setIfInBounds_toArray, List.set_cons_zero, List.set_cons_succ]
      refine wpAnyH_take (i := 4) (oi := { dst := some 21, op := Op.move (Operand.tmp 1), type := 60, pos := "ref.go:48", after := #[], guard := none }) (v := ?vtsame5) rfl (by kernel_rfl) (by kernel_rfl) (by kernel_rfl) (fun _ _ _ h => h) (Or.inl ⟨by rfl, ?ytsame5⟩) hk ?rtsame5
      case ytsame5 => (intro w hSw; (try dsimp only at hSw); go_simp; first | done | with_reducible rfl)
      simp only [Act.put, List.setIfInBounds_toArray, List.set_cons_zero, List.set_cons_succ]
      refine wpAnyH_take (i := 5) (oi := { dst := some 22, op := Op.move (Operand.tmp 5), type := 3, pos := "ref.go:48", after := #[], guard := none }) (v := ?vtsame6) rfl (by kernel_rfl) (by kernel_rfl) (by kernel_rfl) (fun _ _ _ h => h) (Or.inl ⟨by rfl, ?ytsame6⟩) hk ?rtsame6
      case ytsame6 => (intro w hSw; (try dsimp only at hSw); go_simp; first | done | with_reducible rfl)
      simp only [Act.put, List.setIfInBounds_toArray, List.set_cons_zero, List.set_cons_succ]
      refine wpAnyH_take (i := 6) (oi := { dst := some 23, op := Op.indexAddr 60 (Operand.tmp 21) (Operand.tmp 22), type := 0, pos := "ref.go:48", after := #[{ on := 4, ground := Ground.data }, { on := 5, ground := Ground.data }], guard := none }) (v := ?vtsame7) rfl (by kernel_rfl) (by kernel_rfl) (by kernel_rfl) (fun _ _ _ h => h) (Or.inl ⟨by rfl, ?ytsame7⟩) hk ?rtsame7
      case ytsame7 => (intro w hSw; (try dsimp only at hSw); go_simp; first | done | with_reducible rfl)
      simp only [Act.put, List.setIfInBounds_toArray, List.set_cons_zero, List.set_cons_succ]
      refine wpAnyH_take (i := 7) (oi := { dst := some 24, op := Op.load 38 (Operand.tmp 23), type := 38, pos := "ref.go:48", after := #[{ on := 6, ground := Ground.data }], guard := none }) (v := ?vtsame8) rfl (by kernel_rfl) (by kernel_rfl) (by kernel_rfl) (fun _ _ _ h => h) (Or.inl ⟨by rfl, ?ytsame8⟩) hk ?rtsame8
      case ytsame8 => (intro w hSw; have hcw := hSw.2.1; clear hSw; go_simp; first | done | with_reducible rfl)
      simp only [Act.put, List.setIfInBounds_toArray, List.set_cons_zero, List.set_cons_succ]
      refine wpAnyH_ready (rs := [8]) (by decide +kernel) (by simp) ?_
      refine AllReadyH.cons (o := { dst := some 25, op := Op.call { callee := Callee.value (Operand.func 38), args := #[Operand.tmp 20, Operand.tmp 24], argTypes := #[38, 38] }, type := 4, pos := "ref.go:48", after := #[{ on := 3, ground := Ground.data }, { on := 7, ground := Ground.data }], guard := none }) rfl (fun K hK => ?_) AllReadyH.nil
      go_simp
      refine (same_yes ai aj li lj ci cj t _ hk.2.2.1 hk.2.2.2).mono ?_
      rintro e1 w8 ⟨rfl, q8, hq8⟩
      replace hk : w8.cell? ⟨b1, o1 + k, none⟩ = some (.slice ai li ci) ∧ w8.cell? ⟨b2, o2 + k, none⟩ = some (.slice aj lj cj) ∧ Bts w8 ai li ci t ∧ Bts w8 aj lj cj t := by rw [hq8]; exact ⟨hk.1, hk.2.1, hk.2.2.1.drewN q8, hk.2.2.2.drewN q8⟩
      replace HQ : Hid (w8 = w.drewN (q + 1 + q8)) := by show _ = _; rw [hq8, HQ.out]; simp
      clear hq8
      refine hK.out _ _ hk (fun _ => ?_)
      clear hK K
      try simp only [Act.put, List.setIfInBounds_toArray, List.set_cons_zero, List.set_cons_succ]
      refine wpAnyH_take (i := 9) (oi := { dst := some 26, op := Op.unOp UnOp.not 4 (Operand.tmp 25), type := 4, pos := "ref.go:48", after := #[{ on := 8, ground := Ground.data }], guard := none }) (v := ?vtsame9) rfl (by kernel_rfl) (by kernel_rfl) (by kernel_rfl) (fun _ _ _ h => h) (Or.inl ⟨by rfl, ?ytsame9⟩) hk ?rtsame9
      case ytsame9 => (intro w hSw; (try dsimp only at hSw); go_simp; first | done | with_reducible rfl)
      simp only [Act.put, List.setIfInBounds_toArray, List.set_cons_zero, List.set_cons_succ]
      refine wpAnyH_done (by decide +kernel) ?_ _
      clear hk
      go_wp2
      go_roundw
      case rel => exact ⟨k + 1, _, by omega, by go_num, HQ.out⟩
      case measure => simp [intOf]; omega
    · clear hwr
      go_wp2
      go_ret
      exact ⟨rfl, q, HW.out⟩
end Go.Proofs.Ytigaciflbgbolaa
