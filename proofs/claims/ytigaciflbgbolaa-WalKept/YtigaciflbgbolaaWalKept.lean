/- For every int and every list of calls the law WalKept returns true and the list reads as it did (P10.4): behind a crash at any step, whatever is kept, also while it is opened, a log has all texts that were told OK, perhaps the one that was under way, and no others. No condition. -/
import Derived.Test.YtigaciflbgbolaaRows
import Derived.Test.YtigaciflbgbolaaKept10
import Derived.Test.YtigaciflbgbolaaCut
import Derived.WalkKit
import Derived.ProofKit
import Derived.OpenShut
import Derived.ShutString
import Derived.ChangeOld
import Derived.Below
namespace Go.Proofs.Ytigaciflbgbolaa.walKept
open Go.ChangeShapes Go.WideShapes Go.ChangeAt Go.RowKit
open Go.ChangeMaps (open_string shut_string)
set_option linter.unusedVariables false

theorem own : ownKnob Try.prog.godebug = none := by kernel_rfl
theorem laidOut : laidOutB Try.prog = true := by kernel_rfl

theorem low_set {w w1 w2 : World} {g j : Nat} {v : Value} (h1 : Below w.heap.size w w1) (h2 : Below w1.heap.size w1 w2) (hg : w.heap.size ≤ g) : Below w.heap.size w (w2.setCell ⟨g, j, none⟩ v) := (bstep h1 h2).setCell (p := ⟨g, j, none⟩) hg v

set_option maxRecDepth 100000 in
set_option maxHeartbeats 4000000 in
theorem walk (x : Int) (a1 : Option Addr) (len1 cap1 : Nat) (L : List DoM) (w : World) (hx : I64 x) (hL : Dos w a1 len1 cap1 L) :
    Calls Try.prog 4 #[.int .i64 x, .slice a1 len1 cap1] w fun e w' => e = .returned (.bool true) ∧ Below w.heap.size w w' := by
  obtain ⟨n, hn⟩ : ∃ n : Nat, leastV x 1 300 = (n : Int) := ⟨(leastV x 1 300).toNat, by have := least_bd x 1 300 (by decide); omega⟩
  have hnb : 1 ≤ n ∧ n ≤ 300 := by have := least_bd x 1 300 (by decide); omega
  have HNN : Bx (leastV x 1 300 = (n : Int)) := ⟨hn⟩
  clear hn
  have HL : Bx (Dos w a1 len1 cap1 L) := ⟨hL⟩
  clear hL hx
  have hbA : Below w.heap.size w (w.alloc (.cells #[.pointer none, .pointer none, .slice none 0 0, .slice none 0 0, .bool false] 62)) := (Below.refl _ _).alloc (Nat.le_refl _) _
  have hrow := heap_alloc_new w (.cells #[.pointer none, .pointer none, .slice none 0 0, .slice none 0 0, .bool false] 62)
  have hsz : (w.alloc (.cells #[.pointer none, .pointer none, .slice none 0 0, .slice none 0 0, .bool false] 62)).heap.size = w.heap.size + 1 := by simp
  obtain ⟨gx, hgx⟩ : ∃ gx, gx = w.heap.size := ⟨_, rfl⟩
  have HGX : Bx (gx = w.heap.size) := ⟨hgx⟩
  go_enter Try.func4, Try.ntmps4
  go_wp2_with fail
  generalize w.alloc (.cells #[.pointer none, .pointer none, .slice none 0 0, .slice none 0 0, .bool false] 62) = w1 at hbA hrow hsz ⊢
  rw [← hgx] at hrow hsz ⊢
  have HROW : Bx _ := ⟨hrow⟩
  have HSZ : Bx _ := ⟨hsz⟩
  have HBA : Bx _ := ⟨hbA⟩
  clear hgx hrow hsz hbA
  refine (least_any _ _ _ _).mono ?_
  rintro e w' ⟨rfl, rfl⟩
  rw [HNN.out]
  go_wp2_with fail
  refine (new_any n _ (by omega) (by omega)).mono ?_
  rintro e w2 ⟨gd, rfl, hD2, hb2⟩
  have hglt : gx < w1.heap.size := by have := HSZ.out; omega
  have hrow2 := (hb2.block gx hglt).trans HROW.out
  have c0 : w2.cell? ⟨gx, 0, none⟩ = some (.pointer none) := by rw [cell_of_row w2 gx 0 _ _ (0, 0) hrow2]; rfl
  have f0 := frozen_of_row w2 gx 0 _ _ hrow2
  have hrow3 := heap_setCell_same w2 gx 0 _ _ (.pointer (some ⟨gd, 0, none⟩)) hrow2
  have hK3 : Kept (fun k => k = gx) w2 (w2.setCell ⟨gx, 0, none⟩ (.pointer (some ⟨gd, 0, none⟩))) := (Kept.refl (fun k => k = gx) w2).setCell (.inl rfl) 0 _
  have hlow3 : Below w.heap.size w (w2.setCell ⟨gx, 0, none⟩ (.pointer (some ⟨gd, 0, none⟩))) := low_set HBA.out hb2 (Nat.le_of_eq HGX.out.symm)
  have hD3 := hD2.kept hK3 (fun k hk e => by subst e; omega)
  have hsz3 : (w2.setCell ⟨gx, 0, none⟩ (.pointer (some ⟨gd, 0, none⟩))).heap.size = w2.heap.size := by simp [World.setCell]
  have HDD : Bx (DD w (w2.setCell ⟨gx, 0, none⟩ (.pointer (some ⟨gd, 0, none⟩))) (fun k => k = gx) gd (dnew n)) := ⟨⟨⟨_, hD3, fun k hk => ⟨by have := HSZ.out; have := HGX.out; omega, fun e => by subst e; omega⟩⟩, hlow3, fun k hk => by rw [hk, hsz3]; have := hb2.size; omega⟩⟩
  have HLF : Bx (Lf w.heap.size (w2.setCell ⟨gx, 0, none⟩ (.pointer (some ⟨gd, 0, none⟩))) gx (fun k => k = gx) gd (.pointer none) (.slice none 0 0) none 0 0 [] [] false) := ⟨⟨hrow3, TL.nil _ _, bts_nil _, fun hp => absurd hp (Nat.lt_irrefl _), rfl, fun k hk => by rw [hk, HGX.out]; exact Nat.le_refl _, fun k hk => by rw [hk, hsz3]; have := hb2.size; omega⟩⟩
  clear hD2 hb2 hrow2 hrow3 hK3 hlow3 hD3 hsz3 hglt
  go_wp2_with fail
  clear c0 f0
  generalize w2.setCell ⟨gx, 0, none⟩ (.pointer (some ⟨gd, 0, none⟩)) = w3 at HDD HLF ⊢
  refine (opens_any w _ _ gx gd n (dnew n) _ _ none 0 0 [] [] [] false HDD.out HLF.out (left_new n)).mono ?_
  rintro e w4 ⟨rfl, gl, X, vs, s, hDL, hLF, hRS, hFn, _⟩
  have HIN : Bx (Inv n s [] [] false (lgs [])) := ⟨Inv.rest hRS hFn⟩
  have HDL : Bx _ := ⟨hDL⟩
  replace HLF : Bx _ := ⟨hLF⟩
  clear hDL hLF hRS hFn HDD
  go_wp2_with fail
  refine (few_any a1 len1 cap1 L w _ HL.out HDL.out.low).mono ?_
  rintro e w5 ⟨⟨m, rfl, hm40, Q, hM⟩, hb5⟩
  have HM : Bx _ := ⟨hM⟩
  have hmc := hM.le_cap
  have hmx := hM.cap_le
  unfold maxLen at hmx
  replace HDL : Bx _ := ⟨HDL.out.step hb5⟩
  replace HLF : Bx _ := ⟨HLF.out.below hb5⟩
  clear hM hb5 HL
  go_wp2
  go_loopw [6] (fun i wr => ∃ (k : Nat) (s : DS) (S : List (List Int)) (M : List Int) (doubt : Bool) (gl : Nat) (X : Nat → Prop) (L : LS) (vs : Value) (am : Option Addr) (lm cm : Nat), k ≤ m ∧ i = .int .i64 (k : Int) ∧ Bx (Inv n s S M doubt L) ∧ Bx (DL w wr X gd gl s L) ∧ Bx (Lf w.heap.size wr gx X gd (.pointer (some ⟨gl, 0, none⟩)) vs am lm cm S M doubt)) (fun i _ => m - (intOf i).toNat)
  case atStart => exact ⟨0, s, [], [], false, gl, X, lgs [], vs, none, 0, 0, Nat.zero_le _, rfl, HIN, HDL, HLF⟩
  case round =>
    clear HIN HDL HLF
    obtain ⟨k, s, S, M, doubt, gl, X, L, vs, am, lm, cm, hk, rfl, HIN, HDL, HLF⟩ := hrel
    by_cases hlt : k < m
    · have hkI : (k : Int) < (m : Int) := by omega
      obtain ⟨b, off, a2, l2, c2, a3, l3, c3, rfl, z0, z1, z2, z3, z4, hdv, hbw⟩ := HM.out.at HDL.out.low k hlt
      have HDV : Bx _ := ⟨hdv⟩
      generalize Q.getD k doZ = d at z0 z1 z2 HDV
      have HTB : Bx (Byt (txt d)) := ⟨txt_byt HDV.out.b.byt⟩
      have hbA : Below wr.heap.size wr (wr.alloc (rowK d a2 l2 c2 a3 l3 c3)) := (Below.refl _ _).alloc (Nat.le_refl _) _
      have hrow4 := heap_alloc_new wr (rowK d a2 l2 c2 a3 l3 c3)
      have hsz4 : (wr.alloc (rowK d a2 l2 c2 a3 l3 c3)).heap.size = wr.heap.size + 1 := by simp
      obtain ⟨gk, hgk⟩ : ∃ gk, gk = wr.heap.size := ⟨_, rfl⟩
      -- the variable is the law's as well
      have hX4 : ∃ X4 : Nat → Prop, X4 gk ∧ DL w (wr.alloc (rowK d a2 l2 c2 a3 l3 c3)) X4 gd gl s L ∧ Lf w.heap.size (wr.alloc (rowK d a2 l2 c2 a3 l3 c3)) gx X4 gd (.pointer (some ⟨gl, 0, none⟩)) vs am lm cm S M doubt := by
        have hlw := HDL.out.low.size
        refine ⟨fun j => X j ∨ j = gk, .inr rfl, HDL.out.other (Kept.of_below hbA) HLF.out.ge (fun j hj => ?_), (HLF.out.below hbA).wide (fun j hj => .inl hj) (fun j hj => ?_) (fun j hj => ?_)⟩
        · rcases hj with h | h
          · exact .inl h
          · right; rw [h, hgk, hsz4]; omega
        · rcases hj with h | h
          · exact HLF.out.ge j h
          · rw [h, hgk]; exact hlw
        · rcases hj with h | h
          · have := HLF.out.lt j h; omega
          · rw [h, hgk, hsz4]; omega
      obtain ⟨X4, hXk, hDL4, hLF4⟩ := hX4
      obtain ⟨X, hXX⟩ : ∃ X, X = X4 := ⟨_, rfl⟩
      subst hXX
      replace HDL : Bx _ := ⟨hDL4⟩
      replace HLF : Bx _ := ⟨hLF4⟩
      have HGK : Bx (X gk) := ⟨hXk⟩
      have HRK : Bx ((wr.alloc (rowK d a2 l2 c2 a3 l3 c3)).heap[gk]? = some (rowK d a2 l2 c2 a3 l3 c3)) := ⟨by rw [hgk]; exact hrow4⟩
      have HWA : Bx ((wr.alloc (.cells #[.int .i64 d.kind, .int .i64 d.n, .int .i64 d.long, .slice a2 l2 c2, .slice a3 l3 c3] 41)) = wr.alloc (rowK d a2 l2 c2 a3 l3 c3)) := ⟨rfl⟩
      have HGG : Bx (wr.heap.size = gk) := ⟨hgk.symm⟩
      have HOL : Bx (s.O.length ≤ 900000) := ⟨by have := HIN.out.2.1; omega⟩
      clear hDL4 hLF4 hXk hgk hrow4 hsz4 hbA hdv hbw
      go_upto_region 10 with fail
      clear z0 z1 z2 z3 z4
      rw [HWA.out, HGG.out]
      clear HWA HGG
      generalize wr.alloc (rowK d a2 l2 c2 a3 l3 c3) = w4 at HDL HLF HRK ⊢
      have hrk := HRK.out
      have k0 := rk0 hrk
      have hrx := HLF.out.row
      by_cases hd0 : d.kind = 0
      · -- Append
        rw [hd0] at k0
        have hk : w4.drew.heap[gx]? = some (rowX gd (.pointer (some ⟨gl, 0, none⟩)) vs (.slice am lm cm) doubt) ∧ w4.drew.heap[gk]? = some (rowK d a2 l2 c2 a3 l3 c3) := ⟨hrx, hrk⟩
        replace HDL : Bx (DL w w4.drew X gd gl s L) := ⟨HDL.out.drewN 1⟩
        replace HLF : Bx (Lf w.heap.size w4.drew gx X gd (.pointer (some ⟨gl, 0, none⟩)) vs am lm cm S M doubt) := ⟨HLF.out.below (below_drewN (Below.refl _ _) 1)⟩
        clear hrk hrx HRK hd0
        go_wp2_with fail
        clear k0
        refine wp_region_held_drew (S := fun W => W.heap[gx]? = some (rowX gd (.pointer (some ⟨gl, 0, none⟩)) vs (.slice am lm cm) doubt) ∧ W.heap[gk]? = some (rowK d a2 l2 c2 a3 l3 c3)) (by kernel_rfl) hk (fun _ => ?_)
        generalize w4.drew = wd at hk HDL HLF ⊢
        refine wpAnyH_take (i := 0) (oi := { dst := some 41, op := Op.move (Operand.tmp 5), type := 59, pos := "law.go:157", after := #[], guard := none }) (v := ?vkp121) rfl (by kernel_rfl) (by kernel_rfl) (by kernel_rfl) (fun _ _ _ h => h) (Or.inl ⟨by rfl, ?ykp121⟩) hk ?rkp121
        case ykp121 => (intro w hSw; (try dsimp only at hSw); go_simp; first | done | with_reducible rfl)
        simp only [Act.put, List.setIfInBounds_toArray, List.set_cons_zero, List.set_cons_succ]
        refine wpAnyH_take (i := 1) (oi := { dst := some 42, op := Op.nilCheck (Operand.tmp 41), type := 0, pos := "law.go:157", after := #[{ on := 0, ground := Ground.data }], guard := none }) (v := ?vkp122) rfl (by kernel_rfl) (by kernel_rfl) (by kernel_rfl) (fun _ _ _ h => h) (Or.inl ⟨by rfl, ?ykp122⟩) hk ?rkp122
        case ykp122 => (intro w hSw; (try dsimp only at hSw); go_simp; first | done | with_reducible rfl)
        simp only [Act.put, List.setIfInBounds_toArray, List.set_cons_zero, List.set_cons_succ]
        refine wpAnyH_take (i := 2) (oi := { dst := some 43, op := Op.fieldAddr 62 (Operand.tmp 42) 1, type := 0, pos := "law.go:157", after := #[{ on := 1, ground := Ground.data }], guard := none }) (v := ?vkp123) rfl (by kernel_rfl) (by kernel_rfl) (by kernel_rfl) (fun _ _ _ h => h) (Or.inl ⟨by rfl, ?ykp123⟩) hk ?rkp123
        case ykp123 => (intro w hSw; (try dsimp only at hSw); go_simp; first | done | with_reducible rfl)
        simp only [Act.put, List.setIfInBounds_toArray, List.set_cons_zero, List.set_cons_succ]
        refine wpAnyH_take (i := 3) (oi := { dst := some 44, op := Op.load 31 (Operand.tmp 43), type := 31, pos := "law.go:157", after := #[{ on := 2, ground := Ground.data }], guard := none }) (v := ?vkp124) rfl (by kernel_rfl) (by kernel_rfl) (by kernel_rfl) (fun _ _ _ h => h) (Or.inl ⟨by rfl, ?ykp124⟩) hk ?rkp124
        case ykp124 => (intro w hSw; have hcw := rx1 hSw.1; clear hSw; go_simp; first | done | with_reducible rfl)
        simp only [Act.put, List.setIfInBounds_toArray, List.set_cons_zero, List.set_cons_succ]
        refine wpAnyH_take (i := 4) (oi := { dst := some 45, op := Op.load 41 (Operand.tmp 7), type := 41, pos := "law.go:157", after := #[], guard := none }) (v := .agg ([.int .i64 d.kind, .int .i64 d.n, .int .i64 d.long, .slice a2 l2 c2, .slice a3 l3 c3]).toArray) rfl (by kernel_rfl) (by kernel_rfl) (by kernel_rfl) (fun _ _ _ h => h) (yieldsIf_load_mid (by rfl) 41 (.tmp 7) rfl gk 0 rfl ([.int .i64 d.kind, .int .i64 d.n, .int .i64 d.long, .slice a2 l2 c2, .slice a3 l3 c3]) _ (fun W h => rkr h.2) Try.underlying41 rfl do_info) hk ?_
        simp only [Act.put, List.setIfInBounds_toArray, List.set_cons_zero, List.set_cons_succ]
        refine wpAnyH_ready (rs := [5]) (by decide +kernel) (by simp) ?_
        refine AllReadyH.cons (o := { dst := some 46, op := Op.call { callee := Callee.value (Operand.func 16), args := #[Operand.tmp 45], argTypes := #[41] }, type := 38, pos := "law.go:157", after := #[{ on := 4, ground := Ground.data }], guard := none }) rfl (fun K hK => ?_) AllReadyH.nil
        go_simp
        refine (text_any d a2 l2 c2 a3 l3 c3 _ (HDV.out.below HDL.out.low)).mono ?_
        rintro e1 w8 ⟨v8, rfl, hown8, hb8⟩
        obtain ⟨a8, c8, rfl, hm8⟩ := Bts.of_owns hown8 HTB.out
        have hf8 : 0 < (txt d).length → ∀ p, a8 = some p → wd.heap.size ≤ p.block := fun _ p e => (own_ge hown8 p e).1
        have hk0 := hk
        replace hk : w8.heap[gx]? = some (rowX gd (.pointer (some ⟨gl, 0, none⟩)) vs (.slice am lm cm) doubt) ∧ w8.heap[gk]? = some (rowK d a2 l2 c2 a3 l3 c3) := ⟨(hb8.block gx (HLF.out.lt gx HLF.out.og)).trans hk.1, (hb8.block gk (HLF.out.lt gk HGK.out)).trans hk.2⟩
        clear hown8
        refine hK.out _ _ hk (fun _ => ?_)
        clear hK K
        try simp only [Act.put, List.setIfInBounds_toArray, List.set_cons_zero, List.set_cons_succ]
        refine wpAnyH_ready (rs := [6]) (by decide +kernel) (by simp) ?_
        refine AllReadyH.cons (o := { dst := some 47, op := Op.call { callee := Callee.value (Operand.func 15), args := #[Operand.tmp 44, Operand.tmp 46], argTypes := #[31, 38] }, type := 25, pos := "law.go:157", after := #[{ on := 3, ground := Ground.data }, { on := 5, ground := Ground.data }, { on := 5, ground := Ground.chain }], guard := none }) rfl (fun K hK => ?_) AllReadyH.nil
        go_simp
        refine (dl_append w wd _ X gd gl s L a8 _ c8 (txt d) HDL.out hb8 hm8 hf8 HOL.out).mono ?_
        rintro e1 w9 ⟨rfl, hD9, hx9⟩
        replace hk : w9.heap[gx]? = some (rowX gd (.pointer (some ⟨gl, 0, none⟩)) vs (.slice am lm cm) doubt) ∧ w9.heap[gk]? = some (rowK d a2 l2 c2 a3 l3 c3) := ⟨(hx9.2 gx HLF.out.og).trans hk0.1, (hx9.2 gk HGK.out).trans hk0.2⟩
        replace HLF : Bx (Lf w.heap.size w9 gx X gd (.pointer (some ⟨gl, 0, none⟩)) vs am lm cm S M doubt) := ⟨HLF.out.xk hx9⟩
        have HDL9 : Bx _ := ⟨hD9⟩
        clear hD9 hx9 hk0 hb8 hm8 hf8 HDL
        refine hK.out _ _ hk (fun _ => ?_)
        clear hK K
        try simp only [Act.put, List.setIfInBounds_toArray, List.set_cons_zero, List.set_cons_succ]
        refine wpAnyH_take (i := 7) (oi := { dst := some 8, op := Op.assign (Operand.tmp 47), type := 25, pos := "law.go:157", after := #[{ on := 6, ground := Ground.data }, { on := 6, ground := Ground.chain }, { on := 0, ground := Ground.phase }, { on := 1, ground := Ground.phase }, { on := 2, ground := Ground.phase }, { on := 3, ground := Ground.phase }, { on := 4, ground := Ground.phase }, { on := 5, ground := Ground.phase }, { on := 6, ground := Ground.phase }], guard := none }) (v := ?vkp125) rfl (by kernel_rfl) (by kernel_rfl) (by kernel_rfl) (fun _ _ _ h => h) (Or.inl ⟨by rfl, ?ykp125⟩) hk ?rkp125
        case ykp125 => (intro w hSw; (try dsimp only at hSw); go_simp; first | done | with_reducible rfl)
        simp only [Act.put, List.setIfInBounds_toArray, List.set_cons_zero, List.set_cons_succ]
        refine wpAnyH_done (by decide +kernel) ?_ _
        obtain ⟨hrx, hrk⟩ := hk
        have hcs := HIN.out.append HTB.out
        rcases hcs with ⟨e1, e2, e3⟩ | ⟨e1, e2, e3⟩ | ⟨e1, e3⟩
        · -- told OK
          rw [e1]
          have HIN9 : Bx (Inv n (apS s L (txt d)) (S ++ [txt d]) M doubt (apL s L (txt d))) := ⟨by rw [e2]; exact e3⟩
          have HGE : Bx (∀ k, X k → w.heap.size ≤ k) := ⟨HLF.out.ge⟩
          have HBD : Bx (w.heap.size ≤ w9.heap.size) := ⟨HDL9.out.low.size⟩
          have HLW : Bx (∀ W, Kept X w9 W → Below w.heap.size w W) := ⟨fun W hW => HDL9.out.low.trans (hW.low HGE.out HBD.out)⟩
          obtain ⟨av, cv, hvs, _⟩ := HLF.out.tl.form
          obtain ⟨q, HSQ'⟩ : ∃ q, Bx (q = S.length) := ⟨_, ⟨rfl⟩⟩
          have HSQ : Bx (S.length = q) := ⟨HSQ'.out.symm⟩
          rw [← HSQ'.out] at hvs
          have hq4 : q ≤ 4096 := by
            obtain ⟨ownD, ownL, _, h2, _⟩ := HDL9.out.ex
            obtain ⟨vt, h2⟩ := h2
            have h3 := h2.tn
            have h4 := h2.n2
            have h5 : (apL s L (txt d)).T.length = q + 1 := by
              rcases e3.2.2 with ⟨_, _, hh⟩ | ⟨hh, _⟩
              · rw [hh]; show (S ++ [txt d]).length = _; rw [List.length_append, HSQ.out]; rfl
              · cases hh
            omega
          rw [hvs] at hrx
          replace HLF : Bx (Lf w.heap.size w9.drew gx X gd (.pointer (some ⟨gl, 0, none⟩)) (.slice av q cv) am lm cm S M doubt) := ⟨by have h1 := HLF.out; rw [hvs] at h1; exact h1.below (below_drewN (Below.refl _ _) 1)⟩
          replace hrk : w9.drew.heap[gk]? = some (rowK d a2 l2 c2 a3 l3 c3) := hrk
          have HK : Bx (Kept X w9 w9.drew) := ⟨(Kept.refl _ _).drewN 1⟩
          obtain ⟨i0, hi0, hz0, hz1, hz2⟩ := info_parts Try.info22
          have hk : True := trivial
          clear e1 e2 e3 hrx hvs HSQ' HIN
          go_wp2_with fail
          refine wp_region_held_drew (S := fun _ => True) (by kernel_rfl) hk (fun _ => ?_)
          generalize w9.drew = wk at hrk HLF HK ⊢
          refine wpAnyH_take (i := 0) (oi := { dst := some 50, op := Op.move (Operand.tmp 5), type := 59, pos := "law.go:159", after := #[], guard := none }) (v := ?vkp141) rfl (by kernel_rfl) (by kernel_rfl) (by kernel_rfl) (fun _ _ _ h => h) (Or.inl ⟨by rfl, ?ykp141⟩) hk ?rkp141
          case ykp141 => (intro w hSw; (try dsimp only at hSw); go_simp; first | done | with_reducible rfl)
          simp only [Act.put, List.setIfInBounds_toArray, List.set_cons_zero, List.set_cons_succ]
          refine wpAnyH_take (i := 1) (oi := { dst := some 51, op := Op.move (Operand.tmp 5), type := 59, pos := "law.go:159", after := #[], guard := none }) (v := ?vkp142) rfl (by kernel_rfl) (by kernel_rfl) (by kernel_rfl) (fun _ _ _ h => h) (Or.inl ⟨by rfl, ?ykp142⟩) hk ?rkp142
          case ykp142 => (intro w hSw; (try dsimp only at hSw); go_simp; first | done | with_reducible rfl)
          simp only [Act.put, List.setIfInBounds_toArray, List.set_cons_zero, List.set_cons_succ]
          refine wpAnyH_take (i := 2) (oi := { dst := some 52, op := Op.nilCheck (Operand.tmp 51), type := 0, pos := "law.go:159", after := #[{ on := 1, ground := Ground.data }], guard := none }) (v := ?vkp143) rfl (by kernel_rfl) (by kernel_rfl) (by kernel_rfl) (fun _ _ _ h => h) (Or.inl ⟨by rfl, ?ykp143⟩) hk ?rkp143
          case ykp143 => (intro w hSw; (try dsimp only at hSw); go_simp; first | done | with_reducible rfl)
          simp only [Act.put, List.setIfInBounds_toArray, List.set_cons_zero, List.set_cons_succ]
          refine wpAnyH_take (i := 3) (oi := { dst := some 53, op := Op.fieldAddr 62 (Operand.tmp 52) 2, type := 0, pos := "law.go:159", after := #[{ on := 2, ground := Ground.data }], guard := none }) (v := ?vkp144) rfl (by kernel_rfl) (by kernel_rfl) (by kernel_rfl) (fun _ _ _ h => h) (Or.inl ⟨by rfl, ?ykp144⟩) hk ?rkp144
          case ykp144 => (intro w hSw; (try dsimp only at hSw); go_simp; first | done | with_reducible rfl)
          simp only [Act.put, List.setIfInBounds_toArray, List.set_cons_zero, List.set_cons_succ]
          refine wpAnyH_ready (rs := [4, 5]) (by decide +kernel) (by simp) ?_
          refine (AllReadyH.cons (o := { dst := some 54, op := Op.load 60 (Operand.tmp 53), type := 60, pos := "law.go:159", after := #[{ on := 3, ground := Ground.data }], guard := none }) rfl (fun K hK => ?_) (AllReadyH.cons (o := { dst := some 55, op := Op.load 41 (Operand.tmp 7), type := 41, pos := "law.go:159", after := #[], guard := none }) rfl (fun K hK => ?_) AllReadyH.nil))
          · rw [if_pos (by rfl)]
            have cc2 := rx2 HLF.out.row
            go_simp
            clear cc2
            refine hK.out _ _ hk (fun _ => ?_)
            clear hK K
            try simp only [Act.put, List.setIfInBounds_toArray, List.set_cons_zero, List.set_cons_succ]
            refine wpAnyH_ready (rs := [5]) (by decide +kernel) (by simp) ?_
            refine AllReadyH.cons (o := { dst := some 55, op := Op.load 41 (Operand.tmp 7), type := 41, pos := "law.go:159", after := #[], guard := none }) rfl (fun K hK => ?_) AllReadyH.nil
            rw [if_pos (by rfl)]
            have q0 := rk0 hrk
            have q1 := rk1 hrk
            have q2 := rk2 hrk
            have q3 := rk3 hrk
            have q4 := rk4 hrk
            go_simp
            clear q0 q1 q2 q3 q4
            refine hK.out _ _ hk (fun _ => ?_)
            clear hK K
            try simp only [Act.put, List.setIfInBounds_toArray, List.set_cons_zero, List.set_cons_succ]
            refine wpAnyH_ready (rs := [6]) (by decide +kernel) (by simp) ?_
            refine AllReadyH.cons (o := { dst := some 56, op := Op.call { callee := Callee.value (Operand.func 16), args := #[Operand.tmp 55], argTypes := #[41] }, type := 38, pos := "law.go:159", after := #[{ on := 5, ground := Ground.data }], guard := none }) rfl (fun K hK => ?_) AllReadyH.nil
            go_simp
            refine (text_any d a2 l2 c2 a3 l3 c3 _ (HDV.out.below (HLW.out _ HK.out))).mono ?_
            rintro e1 w8 ⟨v8, rfl, hown8, hb8⟩
            obtain ⟨a8, c8, rfl, hm8⟩ := Bts.of_owns hown8 HTB.out
            have HFR : Bx (0 < (txt d).length → ∀ p, a8 = some p → (p.block ≠ gx ∧ (Value.slice av q cv).ownBlock ≠ some p.block) ∧ w9.heap.size ≤ p.block) := ⟨fun _ p e => by have h1 := own_ge hown8 p e; exact ⟨⟨fun e2 => by have := HLF.out.lt gx HLF.out.og; omega, fun e2 => by have := HLF.out.lt _ (HLF.out.tl.ob _ e2).1; omega⟩, Nat.le_trans HK.out.size h1.1⟩⟩
            replace hrk : w8.heap[gk]? = some (rowK d a2 l2 c2 a3 l3 c3) := (hb8.block gk (row_lt hrk)).trans hrk
            replace HLF : Bx (Lf w.heap.size w8 gx X gd (.pointer (some ⟨gl, 0, none⟩)) (.slice av q cv) am lm cm S M doubt) := ⟨HLF.out.below hb8⟩
            replace HK : Bx (Kept X w9 w8) := ⟨HK.out.below hb8⟩
            clear hown8 hb8
            generalize (txt d).length = tl at hm8 HFR ⊢
            generalize w8 = wk at hrk HLF HK hm8 ⊢
            refine hK.out _ _ hk (fun _ => ?_)
            clear hK K
            try simp only [Act.put, List.setIfInBounds_toArray, List.set_cons_zero, List.set_cons_succ]
            refine wpAnyH_ready (rs := [7]) (by decide +kernel) (by simp) ?_
            refine AllReadyH.cons (o := { dst := some 57, op := Op.buildSlice 60 1 #[(0, Operand.tmp 56)], type := 60, pos := "law.go:159", after := #[{ on := 6, ground := Ground.data }], guard := none }) rfl (fun K hK => ?_) AllReadyH.nil
            go_simp
            have hbA : Below wk.heap.size wk (wk.alloc (.cells #[.slice a8 tl c8] 38)) := (Below.refl _ _).alloc (Nat.le_refl _) _
            have hnew := World.news_of_block (heap_alloc_new wk (.cells #[.slice a8 tl c8] 38))
            replace HLF : Bx (Lf w.heap.size (wk.alloc (.cells #[.slice a8 tl c8] 38)) gx X gd (.pointer (some ⟨gl, 0, none⟩)) (.slice av q cv) am lm cm S M doubt) := ⟨HLF.out.below hbA⟩
            replace HK : Bx (Kept X w9 (wk.alloc (.cells #[.slice a8 tl c8] 38))) := ⟨HK.out.below hbA⟩
            replace hm8 := hm8.below hbA
            clear hbA
            generalize wk.heap.size = G at hnew ⊢
            generalize wk.alloc (.cells #[.slice a8 tl c8] 38) = wk at HLF HK hm8 hnew ⊢
            refine hK.out _ _ hk (fun _ => ?_)
            clear hK K
            try simp only [Act.put, List.setIfInBounds_toArray, List.set_cons_zero, List.set_cons_succ]
            refine wpAnyH_ready (rs := [8]) (by decide +kernel) (by simp) ?_
            refine AllReadyH.cons (o := { dst := some 58, op := Op.call { callee := Callee.builtin Builtin.append, args := #[Operand.tmp 54, Operand.tmp 57], argTypes := #[60, 60] }, type := 60, pos := "law.go:159", after := #[{ on := 4, ground := Ground.data }, { on := 7, ground := Ground.data }, { on := 6, ground := Ground.chain }], guard := none }) rfl (fun K hK => ?_) AllReadyH.nil
            obtain ⟨xs, hxo, HTA⟩ := HLF.out.tl.open
            rw [HSQ.out] at hxo
            refine step_append_lies _ rfl (.tmp 54) (.tmp 57) 60 rfl 0 38 i0 (.slice none 0 0) 1 24 Try.underlying60 hi0 hz0 hz1 hz2 rfl (by decide) (.slice av q cv) q xs rfl hxo ⟨G, 0, none⟩ 1 1 [.slice a8 tl c8] rfl rfl hnew (by simp [Value.oneCell']) (by decide) (by unfold maxLen; omega) (by omega) (Nat.zero_le _) _ rfl ?_
            intro g4 cap4 w6 hown4 hgr4 hl4 hlt4
            obtain ⟨cc2, ff2, HX⟩ := Lf.snoc (wl := w9) (l := txt d) HLF.out HTA.out hm8 (fun hp p e => (HFR.out hp p e).1) (fun hp p e => .inr (HFR.out hp p e).2) HBD.out HK.out (by rw [HSQ.out]; exact hown4) hgr4 hl4
            rw [HSQ.out] at HX
            clear hown4 hgr4 hl4 hlt4 hxo HTA HLF HK hnew hm8
            refine hK.out _ _ hk (fun _ => ?_)
            clear hK K
            try simp only [Act.put, List.setIfInBounds_toArray, List.set_cons_zero, List.set_cons_succ]
            refine wpAnyH_take (i := 9) (oi := { dst := some 59, op := Op.nilCheck (Operand.tmp 50), type := 0, pos := "law.go:159", after := #[{ on := 0, ground := Ground.data }, { on := 0, ground := Ground.phase }, { on := 1, ground := Ground.phase }, { on := 2, ground := Ground.phase }, { on := 3, ground := Ground.phase }, { on := 4, ground := Ground.phase }, { on := 5, ground := Ground.phase }, { on := 6, ground := Ground.phase }, { on := 7, ground := Ground.phase }, { on := 8, ground := Ground.phase }], guard := none }) (v := ?vkp147) rfl (by kernel_rfl) (by kernel_rfl) (by kernel_rfl) (fun _ _ _ h => h) (Or.inl ⟨by rfl, ?ykp147⟩) hk ?rkp147
            case ykp147 => (intro w hSw; (try dsimp only at hSw); go_simp; first | done | with_reducible rfl)
            simp only [Act.put, List.setIfInBounds_toArray, List.set_cons_zero, List.set_cons_succ]
            refine wpAnyH_take (i := 10) (oi := { dst := some 60, op := Op.fieldAddr 62 (Operand.tmp 59) 2, type := 0, pos := "law.go:159", after := #[{ on := 9, ground := Ground.data }, { on := 0, ground := Ground.phase }, { on := 1, ground := Ground.phase }, { on := 2, ground := Ground.phase }, { on := 3, ground := Ground.phase }, { on := 4, ground := Ground.phase }, { on := 5, ground := Ground.phase }, { on := 6, ground := Ground.phase }, { on := 7, ground := Ground.phase }, { on := 8, ground := Ground.phase }], guard := none }) (v := ?vkp148) rfl (by kernel_rfl) (by kernel_rfl) (by kernel_rfl) (fun _ _ _ h => h) (Or.inl ⟨by rfl, ?ykp148⟩) hk ?rkp148
            case ykp148 => (intro w hSw; (try dsimp only at hSw); go_simp; first | done | with_reducible rfl)
            simp only [Act.put, List.setIfInBounds_toArray, List.set_cons_zero, List.set_cons_succ]
            refine wpAnyH_ready (rs := [11]) (by decide +kernel) (by simp) ?_
            refine AllReadyH.cons (o := { dst := none, op := Op.store 60 (Operand.tmp 60) (Operand.tmp 58), type := 0, pos := "law.go:159", after := #[{ on := 10, ground := Ground.data }, { on := 8, ground := Ground.data }, { on := 8, ground := Ground.chain }, { on := 0, ground := Ground.phase }, { on := 1, ground := Ground.phase }, { on := 2, ground := Ground.phase }, { on := 3, ground := Ground.phase }, { on := 4, ground := Ground.phase }, { on := 5, ground := Ground.phase }, { on := 6, ground := Ground.phase }, { on := 7, ground := Ground.phase }, { on := 8, ground := Ground.phase }], guard := none }) rfl (fun K hK => ?_) AllReadyH.nil
            rw [if_pos (by rfl)]
            go_simp
            clear cc2 ff2
            refine hK.out _ _ hk (fun _ => ?_)
            clear hK K
            try simp only [Act.put, List.setIfInBounds_toArray, List.set_cons_zero, List.set_cons_succ]
            refine wpAnyH_done (by decide +kernel) ?_ _
            generalize w6.setCell ⟨gx, 2, none⟩ (.slice (some ⟨g4, 0, none⟩) (q + 1) cap4) = wq at HX ⊢
            obtain ⟨X2, hLF2, hK2, hsub2, hnew2⟩ := HX.out
            have HDL2 : Bx _ := ⟨HDL9.out.other hK2 HGE.out hnew2⟩
            have HLF2 : Bx _ := ⟨hLF2⟩
            clear HX hLF2 hK2 hsub2 hnew2
            go_wp2
            go_roundw
            case rel => exact ⟨k + 1, _, _, _, _, _, _, _, _, _, _, _, by omega, by go_num, HIN9, HDL2, HLF2⟩
            case measure => simp [intOf]; omega
          · rw [if_pos (by rfl)]
            have q0 := rk0 hrk
            have q1 := rk1 hrk
            have q2 := rk2 hrk
            have q3 := rk3 hrk
            have q4 := rk4 hrk
            go_simp
            clear q0 q1 q2 q3 q4
            refine hK.out _ _ hk (fun _ => ?_)
            clear hK K
            try simp only [Act.put, List.setIfInBounds_toArray, List.set_cons_zero, List.set_cons_succ]
            refine wpAnyH_ready (rs := [4, 6]) (by decide +kernel) (by simp) ?_
            refine (AllReadyH.cons (o := { dst := some 54, op := Op.load 60 (Operand.tmp 53), type := 60, pos := "law.go:159", after := #[{ on := 3, ground := Ground.data }], guard := none }) rfl (fun K hK => ?_) (AllReadyH.cons (o := { dst := some 56, op := Op.call { callee := Callee.value (Operand.func 16), args := #[Operand.tmp 55], argTypes := #[41] }, type := 38, pos := "law.go:159", after := #[{ on := 5, ground := Ground.data }], guard := none }) rfl (fun K hK => ?_) AllReadyH.nil))
            · rw [if_pos (by rfl)]
              have cc2 := rx2 HLF.out.row
              go_simp
              clear cc2
              refine hK.out _ _ hk (fun _ => ?_)
              clear hK K
              try simp only [Act.put, List.setIfInBounds_toArray, List.set_cons_zero, List.set_cons_succ]
              refine wpAnyH_ready (rs := [6]) (by decide +kernel) (by simp) ?_
              refine AllReadyH.cons (o := { dst := some 56, op := Op.call { callee := Callee.value (Operand.func 16), args := #[Operand.tmp 55], argTypes := #[41] }, type := 38, pos := "law.go:159", after := #[{ on := 5, ground := Ground.data }], guard := none }) rfl (fun K hK => ?_) AllReadyH.nil
              go_simp
              refine (text_any d a2 l2 c2 a3 l3 c3 _ (HDV.out.below (HLW.out _ HK.out))).mono ?_
              rintro e1 w8 ⟨v8, rfl, hown8, hb8⟩
              obtain ⟨a8, c8, rfl, hm8⟩ := Bts.of_owns hown8 HTB.out
              have HFR : Bx (0 < (txt d).length → ∀ p, a8 = some p → (p.block ≠ gx ∧ (Value.slice av q cv).ownBlock ≠ some p.block) ∧ w9.heap.size ≤ p.block) := ⟨fun _ p e => by have h1 := own_ge hown8 p e; exact ⟨⟨fun e2 => by have := HLF.out.lt gx HLF.out.og; omega, fun e2 => by have := HLF.out.lt _ (HLF.out.tl.ob _ e2).1; omega⟩, Nat.le_trans HK.out.size h1.1⟩⟩
              replace hrk : w8.heap[gk]? = some (rowK d a2 l2 c2 a3 l3 c3) := (hb8.block gk (row_lt hrk)).trans hrk
              replace HLF : Bx (Lf w.heap.size w8 gx X gd (.pointer (some ⟨gl, 0, none⟩)) (.slice av q cv) am lm cm S M doubt) := ⟨HLF.out.below hb8⟩
              replace HK : Bx (Kept X w9 w8) := ⟨HK.out.below hb8⟩
              clear hown8 hb8
              generalize (txt d).length = tl at hm8 HFR ⊢
              generalize w8 = wk at hrk HLF HK hm8 ⊢
              refine hK.out _ _ hk (fun _ => ?_)
              clear hK K
              try simp only [Act.put, List.setIfInBounds_toArray, List.set_cons_zero, List.set_cons_succ]
              refine wpAnyH_ready (rs := [7]) (by decide +kernel) (by simp) ?_
              refine AllReadyH.cons (o := { dst := some 57, op := Op.buildSlice 60 1 #[(0, Operand.tmp 56)], type := 60, pos := "law.go:159", after := #[{ on := 6, ground := Ground.data }], guard := none }) rfl (fun K hK => ?_) AllReadyH.nil
              go_simp
              have hbA : Below wk.heap.size wk (wk.alloc (.cells #[.slice a8 tl c8] 38)) := (Below.refl _ _).alloc (Nat.le_refl _) _
              have hnew := World.news_of_block (heap_alloc_new wk (.cells #[.slice a8 tl c8] 38))
              replace HLF : Bx (Lf w.heap.size (wk.alloc (.cells #[.slice a8 tl c8] 38)) gx X gd (.pointer (some ⟨gl, 0, none⟩)) (.slice av q cv) am lm cm S M doubt) := ⟨HLF.out.below hbA⟩
              replace HK : Bx (Kept X w9 (wk.alloc (.cells #[.slice a8 tl c8] 38))) := ⟨HK.out.below hbA⟩
              replace hm8 := hm8.below hbA
              clear hbA
              generalize wk.heap.size = G at hnew ⊢
              generalize wk.alloc (.cells #[.slice a8 tl c8] 38) = wk at HLF HK hm8 hnew ⊢
              refine hK.out _ _ hk (fun _ => ?_)
              clear hK K
              try simp only [Act.put, List.setIfInBounds_toArray, List.set_cons_zero, List.set_cons_succ]
              refine wpAnyH_ready (rs := [8]) (by decide +kernel) (by simp) ?_
              refine AllReadyH.cons (o := { dst := some 58, op := Op.call { callee := Callee.builtin Builtin.append, args := #[Operand.tmp 54, Operand.tmp 57], argTypes := #[60, 60] }, type := 60, pos := "law.go:159", after := #[{ on := 4, ground := Ground.data }, { on := 7, ground := Ground.data }, { on := 6, ground := Ground.chain }], guard := none }) rfl (fun K hK => ?_) AllReadyH.nil
              obtain ⟨xs, hxo, HTA⟩ := HLF.out.tl.open
              rw [HSQ.out] at hxo
              refine step_append_lies _ rfl (.tmp 54) (.tmp 57) 60 rfl 0 38 i0 (.slice none 0 0) 1 24 Try.underlying60 hi0 hz0 hz1 hz2 rfl (by decide) (.slice av q cv) q xs rfl hxo ⟨G, 0, none⟩ 1 1 [.slice a8 tl c8] rfl rfl hnew (by simp [Value.oneCell']) (by decide) (by unfold maxLen; omega) (by omega) (Nat.zero_le _) _ rfl ?_
              intro g4 cap4 w6 hown4 hgr4 hl4 hlt4
              obtain ⟨cc2, ff2, HX⟩ := Lf.snoc (wl := w9) (l := txt d) HLF.out HTA.out hm8 (fun hp p e => (HFR.out hp p e).1) (fun hp p e => .inr (HFR.out hp p e).2) HBD.out HK.out (by rw [HSQ.out]; exact hown4) hgr4 hl4
              rw [HSQ.out] at HX
              clear hown4 hgr4 hl4 hlt4 hxo HTA HLF HK hnew hm8
              refine hK.out _ _ hk (fun _ => ?_)
              clear hK K
              try simp only [Act.put, List.setIfInBounds_toArray, List.set_cons_zero, List.set_cons_succ]
              refine wpAnyH_take (i := 9) (oi := { dst := some 59, op := Op.nilCheck (Operand.tmp 50), type := 0, pos := "law.go:159", after := #[{ on := 0, ground := Ground.data }, { on := 0, ground := Ground.phase }, { on := 1, ground := Ground.phase }, { on := 2, ground := Ground.phase }, { on := 3, ground := Ground.phase }, { on := 4, ground := Ground.phase }, { on := 5, ground := Ground.phase }, { on := 6, ground := Ground.phase }, { on := 7, ground := Ground.phase }, { on := 8, ground := Ground.phase }], guard := none }) (v := ?vkp1412) rfl (by kernel_rfl) (by kernel_rfl) (by kernel_rfl) (fun _ _ _ h => h) (Or.inl ⟨by rfl, ?ykp1412⟩) hk ?rkp1412
              case ykp1412 => (intro w hSw; (try dsimp only at hSw); go_simp; first | done | with_reducible rfl)
              simp only [Act.put, List.setIfInBounds_toArray, List.set_cons_zero, List.set_cons_succ]
              refine wpAnyH_take (i := 10) (oi := { dst := some 60, op := Op.fieldAddr 62 (Operand.tmp 59) 2, type := 0, pos := "law.go:159", after := #[{ on := 9, ground := Ground.data }, { on := 0, ground := Ground.phase }, { on := 1, ground := Ground.phase }, { on := 2, ground := Ground.phase }, { on := 3, ground := Ground.phase }, { on := 4, ground := Ground.phase }, { on := 5, ground := Ground.phase }, { on := 6, ground := Ground.phase }, { on := 7, ground := Ground.phase }, { on := 8, ground := Ground.phase }], guard := none }) (v := ?vkp1413) rfl (by kernel_rfl) (by kernel_rfl) (by kernel_rfl) (fun _ _ _ h => h) (Or.inl ⟨by rfl, ?ykp1413⟩) hk ?rkp1413
              case ykp1413 => (intro w hSw; (try dsimp only at hSw); go_simp; first | done | with_reducible rfl)
              simp only [Act.put, List.setIfInBounds_toArray, List.set_cons_zero, List.set_cons_succ]
              refine wpAnyH_ready (rs := [11]) (by decide +kernel) (by simp) ?_
              refine AllReadyH.cons (o := { dst := none, op := Op.store 60 (Operand.tmp 60) (Operand.tmp 58), type := 0, pos := "law.go:159", after := #[{ on := 10, ground := Ground.data }, { on := 8, ground := Ground.data }, { on := 8, ground := Ground.chain }, { on := 0, ground := Ground.phase }, { on := 1, ground := Ground.phase }, { on := 2, ground := Ground.phase }, { on := 3, ground := Ground.phase }, { on := 4, ground := Ground.phase }, { on := 5, ground := Ground.phase }, { on := 6, ground := Ground.phase }, { on := 7, ground := Ground.phase }, { on := 8, ground := Ground.phase }], guard := none }) rfl (fun K hK => ?_) AllReadyH.nil
              rw [if_pos (by rfl)]
              go_simp
              clear cc2 ff2
              refine hK.out _ _ hk (fun _ => ?_)
              clear hK K
              try simp only [Act.put, List.setIfInBounds_toArray, List.set_cons_zero, List.set_cons_succ]
              refine wpAnyH_done (by decide +kernel) ?_ _
              generalize w6.setCell ⟨gx, 2, none⟩ (.slice (some ⟨g4, 0, none⟩) (q + 1) cap4) = wq at HX ⊢
              obtain ⟨X2, hLF2, hK2, hsub2, hnew2⟩ := HX.out
              have HDL2 : Bx _ := ⟨HDL9.out.other hK2 HGE.out hnew2⟩
              have HLF2 : Bx _ := ⟨hLF2⟩
              clear HX hLF2 hK2 hsub2 hnew2
              go_wp2
              go_roundw
              case rel => exact ⟨k + 1, _, _, _, _, _, _, _, _, _, _, _, by omega, by go_num, HIN9, HDL2, HLF2⟩
              case measure => simp [intOf]; omega
            · go_simp
              refine (text_any d a2 l2 c2 a3 l3 c3 _ (HDV.out.below (HLW.out _ HK.out))).mono ?_
              rintro e1 w8 ⟨v8, rfl, hown8, hb8⟩
              obtain ⟨a8, c8, rfl, hm8⟩ := Bts.of_owns hown8 HTB.out
              have HFR : Bx (0 < (txt d).length → ∀ p, a8 = some p → (p.block ≠ gx ∧ (Value.slice av q cv).ownBlock ≠ some p.block) ∧ w9.heap.size ≤ p.block) := ⟨fun _ p e => by have h1 := own_ge hown8 p e; exact ⟨⟨fun e2 => by have := HLF.out.lt gx HLF.out.og; omega, fun e2 => by have := HLF.out.lt _ (HLF.out.tl.ob _ e2).1; omega⟩, Nat.le_trans HK.out.size h1.1⟩⟩
              replace hrk : w8.heap[gk]? = some (rowK d a2 l2 c2 a3 l3 c3) := (hb8.block gk (row_lt hrk)).trans hrk
              replace HLF : Bx (Lf w.heap.size w8 gx X gd (.pointer (some ⟨gl, 0, none⟩)) (.slice av q cv) am lm cm S M doubt) := ⟨HLF.out.below hb8⟩
              replace HK : Bx (Kept X w9 w8) := ⟨HK.out.below hb8⟩
              clear hown8 hb8
              generalize (txt d).length = tl at hm8 HFR ⊢
              generalize w8 = wk at hrk HLF HK hm8 ⊢
              refine hK.out _ _ hk (fun _ => ?_)
              clear hK K
              try simp only [Act.put, List.setIfInBounds_toArray, List.set_cons_zero, List.set_cons_succ]
              refine wpAnyH_ready (rs := [4, 7]) (by decide +kernel) (by simp) ?_
              refine (AllReadyH.cons (o := { dst := some 54, op := Op.load 60 (Operand.tmp 53), type := 60, pos := "law.go:159", after := #[{ on := 3, ground := Ground.data }], guard := none }) rfl (fun K hK => ?_) (AllReadyH.cons (o := { dst := some 57, op := Op.buildSlice 60 1 #[(0, Operand.tmp 56)], type := 60, pos := "law.go:159", after := #[{ on := 6, ground := Ground.data }], guard := none }) rfl (fun K hK => ?_) AllReadyH.nil))
              · rw [if_pos (by rfl)]
                have cc2 := rx2 HLF.out.row
                go_simp
                clear cc2
                refine hK.out _ _ hk (fun _ => ?_)
                clear hK K
                try simp only [Act.put, List.setIfInBounds_toArray, List.set_cons_zero, List.set_cons_succ]
                refine wpAnyH_ready (rs := [7]) (by decide +kernel) (by simp) ?_
                refine AllReadyH.cons (o := { dst := some 57, op := Op.buildSlice 60 1 #[(0, Operand.tmp 56)], type := 60, pos := "law.go:159", after := #[{ on := 6, ground := Ground.data }], guard := none }) rfl (fun K hK => ?_) AllReadyH.nil
                go_simp
                have hbA : Below wk.heap.size wk (wk.alloc (.cells #[.slice a8 tl c8] 38)) := (Below.refl _ _).alloc (Nat.le_refl _) _
                have hnew := World.news_of_block (heap_alloc_new wk (.cells #[.slice a8 tl c8] 38))
                replace HLF : Bx (Lf w.heap.size (wk.alloc (.cells #[.slice a8 tl c8] 38)) gx X gd (.pointer (some ⟨gl, 0, none⟩)) (.slice av q cv) am lm cm S M doubt) := ⟨HLF.out.below hbA⟩
                replace HK : Bx (Kept X w9 (wk.alloc (.cells #[.slice a8 tl c8] 38))) := ⟨HK.out.below hbA⟩
                replace hm8 := hm8.below hbA
                clear hbA
                generalize wk.heap.size = G at hnew ⊢
                generalize wk.alloc (.cells #[.slice a8 tl c8] 38) = wk at HLF HK hm8 hnew ⊢
                refine hK.out _ _ hk (fun _ => ?_)
                clear hK K
                try simp only [Act.put, List.setIfInBounds_toArray, List.set_cons_zero, List.set_cons_succ]
                refine wpAnyH_ready (rs := [8]) (by decide +kernel) (by simp) ?_
                refine AllReadyH.cons (o := { dst := some 58, op := Op.call { callee := Callee.builtin Builtin.append, args := #[Operand.tmp 54, Operand.tmp 57], argTypes := #[60, 60] }, type := 60, pos := "law.go:159", after := #[{ on := 4, ground := Ground.data }, { on := 7, ground := Ground.data }, { on := 6, ground := Ground.chain }], guard := none }) rfl (fun K hK => ?_) AllReadyH.nil
                obtain ⟨xs, hxo, HTA⟩ := HLF.out.tl.open
                rw [HSQ.out] at hxo
                refine step_append_lies _ rfl (.tmp 54) (.tmp 57) 60 rfl 0 38 i0 (.slice none 0 0) 1 24 Try.underlying60 hi0 hz0 hz1 hz2 rfl (by decide) (.slice av q cv) q xs rfl hxo ⟨G, 0, none⟩ 1 1 [.slice a8 tl c8] rfl rfl hnew (by simp [Value.oneCell']) (by decide) (by unfold maxLen; omega) (by omega) (Nat.zero_le _) _ rfl ?_
                intro g4 cap4 w6 hown4 hgr4 hl4 hlt4
                obtain ⟨cc2, ff2, HX⟩ := Lf.snoc (wl := w9) (l := txt d) HLF.out HTA.out hm8 (fun hp p e => (HFR.out hp p e).1) (fun hp p e => .inr (HFR.out hp p e).2) HBD.out HK.out (by rw [HSQ.out]; exact hown4) hgr4 hl4
                rw [HSQ.out] at HX
                clear hown4 hgr4 hl4 hlt4 hxo HTA HLF HK hnew hm8
                refine hK.out _ _ hk (fun _ => ?_)
                clear hK K
                try simp only [Act.put, List.setIfInBounds_toArray, List.set_cons_zero, List.set_cons_succ]
                refine wpAnyH_take (i := 9) (oi := { dst := some 59, op := Op.nilCheck (Operand.tmp 50), type := 0, pos := "law.go:159", after := #[{ on := 0, ground := Ground.data }, { on := 0, ground := Ground.phase }, { on := 1, ground := Ground.phase }, { on := 2, ground := Ground.phase }, { on := 3, ground := Ground.phase }, { on := 4, ground := Ground.phase }, { on := 5, ground := Ground.phase }, { on := 6, ground := Ground.phase }, { on := 7, ground := Ground.phase }, { on := 8, ground := Ground.phase }], guard := none }) (v := ?vkp1416) rfl (by kernel_rfl) (by kernel_rfl) (by kernel_rfl) (fun _ _ _ h => h) (Or.inl ⟨by rfl, ?ykp1416⟩) hk ?rkp1416
                case ykp1416 => (intro w hSw; (try dsimp only at hSw); go_simp; first | done | with_reducible rfl)
                simp only [Act.put, List.setIfInBounds_toArray, List.set_cons_zero, List.set_cons_succ]
                refine wpAnyH_take (i := 10) (oi := { dst := some 60, op := Op.fieldAddr 62 (Operand.tmp 59) 2, type := 0, pos := "law.go:159", after := #[{ on := 9, ground := Ground.data }, { on := 0, ground := Ground.phase }, { on := 1, ground := Ground.phase }, { on := 2, ground := Ground.phase }, { on := 3, ground := Ground.phase }, { on := 4, ground := Ground.phase }, { on := 5, ground := Ground.phase }, { on := 6, ground := Ground.phase }, { on := 7, ground := Ground.phase }, { on := 8, ground := Ground.phase }], guard := none }) (v := ?vkp1417) rfl (by kernel_rfl) (by kernel_rfl) (by kernel_rfl) (fun _ _ _ h => h) (Or.inl ⟨by rfl, ?ykp1417⟩) hk ?rkp1417
                case ykp1417 => (intro w hSw; (try dsimp only at hSw); go_simp; first | done | with_reducible rfl)
                simp only [Act.put, List.setIfInBounds_toArray, List.set_cons_zero, List.set_cons_succ]
                refine wpAnyH_ready (rs := [11]) (by decide +kernel) (by simp) ?_
                refine AllReadyH.cons (o := { dst := none, op := Op.store 60 (Operand.tmp 60) (Operand.tmp 58), type := 0, pos := "law.go:159", after := #[{ on := 10, ground := Ground.data }, { on := 8, ground := Ground.data }, { on := 8, ground := Ground.chain }, { on := 0, ground := Ground.phase }, { on := 1, ground := Ground.phase }, { on := 2, ground := Ground.phase }, { on := 3, ground := Ground.phase }, { on := 4, ground := Ground.phase }, { on := 5, ground := Ground.phase }, { on := 6, ground := Ground.phase }, { on := 7, ground := Ground.phase }, { on := 8, ground := Ground.phase }], guard := none }) rfl (fun K hK => ?_) AllReadyH.nil
                rw [if_pos (by rfl)]
                go_simp
                clear cc2 ff2
                refine hK.out _ _ hk (fun _ => ?_)
                clear hK K
                try simp only [Act.put, List.setIfInBounds_toArray, List.set_cons_zero, List.set_cons_succ]
                refine wpAnyH_done (by decide +kernel) ?_ _
                generalize w6.setCell ⟨gx, 2, none⟩ (.slice (some ⟨g4, 0, none⟩) (q + 1) cap4) = wq at HX ⊢
                obtain ⟨X2, hLF2, hK2, hsub2, hnew2⟩ := HX.out
                have HDL2 : Bx _ := ⟨HDL9.out.other hK2 HGE.out hnew2⟩
                have HLF2 : Bx _ := ⟨hLF2⟩
                clear HX hLF2 hK2 hsub2 hnew2
                go_wp2
                go_roundw
                case rel => exact ⟨k + 1, _, _, _, _, _, _, _, _, _, _, _, by omega, by go_num, HIN9, HDL2, HLF2⟩
                case measure => simp [intOf]; omega
              · go_simp
                have hbA : Below wk.heap.size wk (wk.alloc (.cells #[.slice a8 tl c8] 38)) := (Below.refl _ _).alloc (Nat.le_refl _) _
                have hnew := World.news_of_block (heap_alloc_new wk (.cells #[.slice a8 tl c8] 38))
                replace HLF : Bx (Lf w.heap.size (wk.alloc (.cells #[.slice a8 tl c8] 38)) gx X gd (.pointer (some ⟨gl, 0, none⟩)) (.slice av q cv) am lm cm S M doubt) := ⟨HLF.out.below hbA⟩
                replace HK : Bx (Kept X w9 (wk.alloc (.cells #[.slice a8 tl c8] 38))) := ⟨HK.out.below hbA⟩
                replace hm8 := hm8.below hbA
                clear hbA
                generalize wk.heap.size = G at hnew ⊢
                generalize wk.alloc (.cells #[.slice a8 tl c8] 38) = wk at HLF HK hm8 hnew ⊢
                refine hK.out _ _ hk (fun _ => ?_)
                clear hK K
                try simp only [Act.put, List.setIfInBounds_toArray, List.set_cons_zero, List.set_cons_succ]
                refine wpAnyH_ready (rs := [4]) (by decide +kernel) (by simp) ?_
                refine AllReadyH.cons (o := { dst := some 54, op := Op.load 60 (Operand.tmp 53), type := 60, pos := "law.go:159", after := #[{ on := 3, ground := Ground.data }], guard := none }) rfl (fun K hK => ?_) AllReadyH.nil
                rw [if_pos (by rfl)]
                have cc2 := rx2 HLF.out.row
                go_simp
                clear cc2
                refine hK.out _ _ hk (fun _ => ?_)
                clear hK K
                try simp only [Act.put, List.setIfInBounds_toArray, List.set_cons_zero, List.set_cons_succ]
                refine wpAnyH_ready (rs := [8]) (by decide +kernel) (by simp) ?_
                refine AllReadyH.cons (o := { dst := some 58, op := Op.call { callee := Callee.builtin Builtin.append, args := #[Operand.tmp 54, Operand.tmp 57], argTypes := #[60, 60] }, type := 60, pos := "law.go:159", after := #[{ on := 4, ground := Ground.data }, { on := 7, ground := Ground.data }, { on := 6, ground := Ground.chain }], guard := none }) rfl (fun K hK => ?_) AllReadyH.nil
                obtain ⟨xs, hxo, HTA⟩ := HLF.out.tl.open
                rw [HSQ.out] at hxo
                refine step_append_lies _ rfl (.tmp 54) (.tmp 57) 60 rfl 0 38 i0 (.slice none 0 0) 1 24 Try.underlying60 hi0 hz0 hz1 hz2 rfl (by decide) (.slice av q cv) q xs rfl hxo ⟨G, 0, none⟩ 1 1 [.slice a8 tl c8] rfl rfl hnew (by simp [Value.oneCell']) (by decide) (by unfold maxLen; omega) (by omega) (Nat.zero_le _) _ rfl ?_
                intro g4 cap4 w6 hown4 hgr4 hl4 hlt4
                obtain ⟨cc2, ff2, HX⟩ := Lf.snoc (wl := w9) (l := txt d) HLF.out HTA.out hm8 (fun hp p e => (HFR.out hp p e).1) (fun hp p e => .inr (HFR.out hp p e).2) HBD.out HK.out (by rw [HSQ.out]; exact hown4) hgr4 hl4
                rw [HSQ.out] at HX
                clear hown4 hgr4 hl4 hlt4 hxo HTA HLF HK hnew hm8
                refine hK.out _ _ hk (fun _ => ?_)
                clear hK K
                try simp only [Act.put, List.setIfInBounds_toArray, List.set_cons_zero, List.set_cons_succ]
                refine wpAnyH_take (i := 9) (oi := { dst := some 59, op := Op.nilCheck (Operand.tmp 50), type := 0, pos := "law.go:159", after := #[{ on := 0, ground := Ground.data }, { on := 0, ground := Ground.phase }, { on := 1, ground := Ground.phase }, { on := 2, ground := Ground.phase }, { on := 3, ground := Ground.phase }, { on := 4, ground := Ground.phase }, { on := 5, ground := Ground.phase }, { on := 6, ground := Ground.phase }, { on := 7, ground := Ground.phase }, { on := 8, ground := Ground.phase }], guard := none }) (v := ?vkp1420) rfl (by kernel_rfl) (by kernel_rfl) (by kernel_rfl) (fun _ _ _ h => h) (Or.inl ⟨by rfl, ?ykp1420⟩) hk ?rkp1420
                case ykp1420 => (intro w hSw; (try dsimp only at hSw); go_simp; first | done | with_reducible rfl)
                simp only [Act.put, List.setIfInBounds_toArray, List.set_cons_zero, List.set_cons_succ]
                refine wpAnyH_take (i := 10) (oi := { dst := some 60, op := Op.fieldAddr 62 (Operand.tmp 59) 2, type := 0, pos := "law.go:159", after := #[{ on := 9, ground := Ground.data }, { on := 0, ground := Ground.phase }, { on := 1, ground := Ground.phase }, { on := 2, ground := Ground.phase }, { on := 3, ground := Ground.phase }, { on := 4, ground := Ground.phase }, { on := 5, ground := Ground.phase }, { on := 6, ground := Ground.phase }, { on := 7, ground := Ground.phase }, { on := 8, ground := Ground.phase }], guard := none }) (v := ?vkp1421) rfl (by kernel_rfl) (by kernel_rfl) (by kernel_rfl) (fun _ _ _ h => h) (Or.inl ⟨by rfl, ?ykp1421⟩) hk ?rkp1421
                case ykp1421 => (intro w hSw; (try dsimp only at hSw); go_simp; first | done | with_reducible rfl)
                simp only [Act.put, List.setIfInBounds_toArray, List.set_cons_zero, List.set_cons_succ]
                refine wpAnyH_ready (rs := [11]) (by decide +kernel) (by simp) ?_
                refine AllReadyH.cons (o := { dst := none, op := Op.store 60 (Operand.tmp 60) (Operand.tmp 58), type := 0, pos := "law.go:159", after := #[{ on := 10, ground := Ground.data }, { on := 8, ground := Ground.data }, { on := 8, ground := Ground.chain }, { on := 0, ground := Ground.phase }, { on := 1, ground := Ground.phase }, { on := 2, ground := Ground.phase }, { on := 3, ground := Ground.phase }, { on := 4, ground := Ground.phase }, { on := 5, ground := Ground.phase }, { on := 6, ground := Ground.phase }, { on := 7, ground := Ground.phase }, { on := 8, ground := Ground.phase }], guard := none }) rfl (fun K hK => ?_) AllReadyH.nil
                rw [if_pos (by rfl)]
                go_simp
                clear cc2 ff2
                refine hK.out _ _ hk (fun _ => ?_)
                clear hK K
                try simp only [Act.put, List.setIfInBounds_toArray, List.set_cons_zero, List.set_cons_succ]
                refine wpAnyH_done (by decide +kernel) ?_ _
                generalize w6.setCell ⟨gx, 2, none⟩ (.slice (some ⟨g4, 0, none⟩) (q + 1) cap4) = wq at HX ⊢
                obtain ⟨X2, hLF2, hK2, hsub2, hnew2⟩ := HX.out
                have HDL2 : Bx _ := ⟨HDL9.out.other hK2 HGE.out hnew2⟩
                have HLF2 : Bx _ := ⟨hLF2⟩
                clear HX hLF2 hK2 hsub2 hnew2
                go_wp2
                go_roundw
                case rel => exact ⟨k + 1, _, _, _, _, _, _, _, _, _, _, _, by omega, by go_num, HIN9, HDL2, HLF2⟩
                case measure => simp [intOf]; omega
        · -- the power went off
          rw [e1]
          have HIN9 : Bx (Inv n (apS s L (txt d)) S (txt d) true (apL s L (txt d))) := ⟨e3⟩
          have HGE : Bx (∀ k, X k → w.heap.size ≤ k) := ⟨HLF.out.ge⟩
          have HBD : Bx (w.heap.size ≤ w9.heap.size) := ⟨HDL9.out.low.size⟩
          have x4 := rx4 hrx
          rw [e2] at x4
          have q0 := rk0 hrk
          have q1 := rk1 hrk
          have q2 := rk2 hrk
          have q3 := rk3 hrk
          have q4 := rk4 hrk
          have hdv9 := HDV.out.below HDL9.out.low
          clear e1 e3 HIN hrx hrk
          go_wp2_with fail
          refine (text_any d a2 l2 c2 a3 l3 c3 _ hdv9).mono ?_
          rintro e w10 ⟨v10, rfl, hown10, hb10⟩
          obtain ⟨a10, c10, rfl, hm10⟩ := Bts.of_owns hown10 HTB.out
          have hLF10 := HLF.out.below hb10
          obtain ⟨X2, hLF2, hK2, hsub2, hnew2⟩ := Lf.setM (wl := w9) hLF10 hm10 (fun _ p e => (own_ge hown10 p e).1) HLF.out.lt HBD.out (Kept.of_below hb10)
          have hLF3 := hLF2.setB true
          have hK3 := hK2.setCell (g := gx) (.inl HLF.out.og) 4 (.bool true)
          have hsz3 : ((w10.setCell ⟨gx, 3, none⟩ (.slice a10 (txt d).length c10)).setCell ⟨gx, 4, none⟩ (.bool true)).heap.size = (w10.setCell ⟨gx, 3, none⟩ (.slice a10 (txt d).length c10)).heap.size := by simp [World.setCell]
          have HDL3 : Bx _ := ⟨HDL9.out.other hK3 HGE.out (fun k hk => by rw [hsz3]; exact hnew2 k hk)⟩
          have HLF3 : Bx _ := ⟨hLF3⟩
          have x3 := rx3 hLF10.row
          have y3 := rxf hLF10.row 3
          have x4b := rx4 hLF10.row
          have y4 := rxf hLF10.row 4
          clear q0 q1 q2 q3 q4 x4 hdv9 hown10 hb10 hm10 hLF10 hLF2 hK2 hsub2 hnew2 hLF3 hK3 hsz3 HLF HDL9
          generalize (txt d).length = tl at HDL3 HLF3 ⊢
          go_wp2
          go_roundw
          case rel => exact ⟨k + 1, _, _, _, _, _, _, _, _, _, _, _, by omega, by go_num, HIN9, HDL3, HLF3⟩
          case measure => simp [intOf]; omega
        · -- refused
          have x4 := rx4 hrx
          have HIN9 : Bx (Inv n (apS s L (txt d)) S M doubt (apL s L (txt d))) := ⟨e3⟩
          clear hrx hrk e3 HIN
          rcases e1 with e1 | e1 | ⟨e1, e2⟩
          · rw [e1]
            go_wp2
            go_roundw
            case rel => exact ⟨k + 1, _, _, _, _, _, _, _, _, _, _, _, by omega, by go_num, HIN9, HDL9, HLF⟩
            case measure => simp [intOf]; omega
          · rw [e1]
            go_wp2
            go_roundw
            case rel => exact ⟨k + 1, _, _, _, _, _, _, _, _, _, _, _, by omega, by go_num, HIN9, HDL9, HLF⟩
            case measure => simp [intOf]; omega
          · rw [e1]
            rw [e2] at x4
            go_wp2
            go_roundw
            case rel => exact ⟨k + 1, _, _, _, _, _, _, _, _, _, _, _, by omega, by go_num, HIN9, HDL9, HLF⟩
            case measure => simp [intOf]; omega
      · have n0 : (d.kind == 0) = false := by simpa using hd0
        by_cases hd1 : d.kind = 1
        · -- Arm
          rw [hd1] at k0 n0
          have hk : w4.drew.heap[gx]? = some (rowX gd (.pointer (some ⟨gl, 0, none⟩)) vs (.slice am lm cm) doubt) ∧ w4.drew.heap[gk]? = some (rowK d a2 l2 c2 a3 l3 c3) := ⟨hrx, hrk⟩
          replace HDL : Bx (DL w w4.drew X gd gl s L) := ⟨HDL.out.drewN 1⟩
          replace HLF : Bx (Lf w.heap.size w4.drew gx X gd (.pointer (some ⟨gl, 0, none⟩)) vs am lm cm S M doubt) := ⟨HLF.out.below (below_drewN (Below.refl _ _) 1)⟩
          have HLB : Bx (leastV d.n 0 1000 ≤ 9223372036854775807) := ⟨by have := least_bd d.n 0 1000 (by decide); omega⟩
          clear hrk hrx HRK hd0 hd1
          go_wp2_with fail
          clear k0
          refine wp_region_held_drew (S := fun W => W.heap[gx]? = some (rowX gd (.pointer (some ⟨gl, 0, none⟩)) vs (.slice am lm cm) doubt) ∧ W.heap[gk]? = some (rowK d a2 l2 c2 a3 l3 c3)) (by kernel_rfl) hk (fun _ => ?_)
          generalize w4.drew = wd at hk HDL HLF ⊢
          refine wpAnyH_take (i := 0) (oi := { dst := some 80, op := Op.move (Operand.tmp 5), type := 59, pos := "law.go:164", after := #[], guard := none }) (v := ?vkp181) rfl (by kernel_rfl) (by kernel_rfl) (by kernel_rfl) (fun _ _ _ h => h) (Or.inl ⟨by rfl, ?ykp181⟩) hk ?rkp181
          case ykp181 => (intro w hSw; (try dsimp only at hSw); go_simp; first | done | with_reducible rfl)
          simp only [Act.put, List.setIfInBounds_toArray, List.set_cons_zero, List.set_cons_succ]
          refine wpAnyH_take (i := 1) (oi := { dst := some 81, op := Op.nilCheck (Operand.tmp 80), type := 0, pos := "law.go:164", after := #[{ on := 0, ground := Ground.data }], guard := none }) (v := ?vkp182) rfl (by kernel_rfl) (by kernel_rfl) (by kernel_rfl) (fun _ _ _ h => h) (Or.inl ⟨by rfl, ?ykp182⟩) hk ?rkp182
          case ykp182 => (intro w hSw; (try dsimp only at hSw); go_simp; first | done | with_reducible rfl)
          simp only [Act.put, List.setIfInBounds_toArray, List.set_cons_zero, List.set_cons_succ]
          refine wpAnyH_take (i := 2) (oi := { dst := some 82, op := Op.fieldAddr 62 (Operand.tmp 81) 0, type := 0, pos := "law.go:164", after := #[{ on := 1, ground := Ground.data }], guard := none }) (v := ?vkp183) rfl (by kernel_rfl) (by kernel_rfl) (by kernel_rfl) (fun _ _ _ h => h) (Or.inl ⟨by rfl, ?ykp183⟩) hk ?rkp183
          case ykp183 => (intro w hSw; (try dsimp only at hSw); go_simp; first | done | with_reducible rfl)
          simp only [Act.put, List.setIfInBounds_toArray, List.set_cons_zero, List.set_cons_succ]
          refine wpAnyH_take (i := 3) (oi := { dst := some 83, op := Op.load 24 (Operand.tmp 82), type := 24, pos := "law.go:164", after := #[{ on := 2, ground := Ground.data }], guard := none }) (v := ?vkp184) rfl (by kernel_rfl) (by kernel_rfl) (by kernel_rfl) (fun _ _ _ h => h) (Or.inl ⟨by rfl, ?ykp184⟩) hk ?rkp184
          case ykp184 => (intro w hSw; have hcw := rx0 hSw.1; clear hSw; go_simp; first | done | with_reducible rfl)
          simp only [Act.put, List.setIfInBounds_toArray, List.set_cons_zero, List.set_cons_succ]
          refine wpAnyH_take (i := 4) (oi := { dst := some 84, op := Op.fieldAddr 41 (Operand.tmp 7) 1, type := 0, pos := "law.go:164", after := #[], guard := none }) (v := ?vkp185) rfl (by kernel_rfl) (by kernel_rfl) (by kernel_rfl) (fun _ _ _ h => h) (Or.inl ⟨by rfl, ?ykp185⟩) hk ?rkp185
          case ykp185 => (intro w hSw; (try dsimp only at hSw); go_simp; first | done | with_reducible rfl)
          simp only [Act.put, List.setIfInBounds_toArray, List.set_cons_zero, List.set_cons_succ]
          refine wpAnyH_take (i := 5) (oi := { dst := some 85, op := Op.load 3 (Operand.tmp 84), type := 3, pos := "law.go:164", after := #[{ on := 4, ground := Ground.data }], guard := none }) (v := ?vkp186) rfl (by kernel_rfl) (by kernel_rfl) (by kernel_rfl) (fun _ _ _ h => h) (Or.inl ⟨by rfl, ?ykp186⟩) hk ?rkp186
          case ykp186 => (intro w hSw; have hcw := rk1 hSw.2; clear hSw; go_simp; first | done | with_reducible rfl)
          simp only [Act.put, List.setIfInBounds_toArray, List.set_cons_zero, List.set_cons_succ]
          refine wpAnyH_ready (rs := [6]) (by decide +kernel) (by simp) ?_
          refine AllReadyH.cons (o := { dst := some 86, op := Op.call { callee := Callee.value (Operand.func 9), args := #[Operand.tmp 85, Operand.const (Value.int IntKind.i64 0), Operand.const (Value.int IntKind.i64 1000)], argTypes := #[3, 3, 3] }, type := 3, pos := "law.go:164", after := #[{ on := 5, ground := Ground.data }], guard := none }) rfl (fun K hK => ?_) AllReadyH.nil
          go_simp
          refine (least_any _ _ _ _).mono ?_
          rintro e1 w8 ⟨rfl, rfl⟩
          refine hK.out _ _ hk (fun _ => ?_)
          clear hK K
          try simp only [Act.put, List.setIfInBounds_toArray, List.set_cons_zero, List.set_cons_succ]
          refine wpAnyH_ready (rs := [7]) (by decide +kernel) (by simp) ?_
          refine AllReadyH.cons (o := { dst := some 87, op := Op.call { callee := Callee.value (Operand.func 18), args := #[Operand.tmp 83, Operand.tmp 86], argTypes := #[24, 3] }, type := 25, pos := "law.go:164", after := #[{ on := 3, ground := Ground.data }, { on := 6, ground := Ground.data }, { on := 6, ground := Ground.chain }], guard := none }) rfl (fun K hK => ?_) AllReadyH.nil
          go_simp
          refine (dl_arm w _ X gd gl s L _ HDL.out HLB.out).mono ?_
          rintro e1 w9 ⟨rfl, hD9, hx9⟩
          replace hk : w9.heap[gx]? = some (rowX gd (.pointer (some ⟨gl, 0, none⟩)) vs (.slice am lm cm) doubt) ∧ w9.heap[gk]? = some (rowK d a2 l2 c2 a3 l3 c3) := ⟨(hx9.2 gx HLF.out.og).trans hk.1, (hx9.2 gk HGK.out).trans hk.2⟩
          replace HLF : Bx (Lf w.heap.size w9 gx X gd (.pointer (some ⟨gl, 0, none⟩)) vs am lm cm S M doubt) := ⟨HLF.out.xk hx9⟩
          have HD9 : Bx _ := ⟨hD9⟩
          clear hD9 hx9 HDL
          refine hK.out _ _ hk (fun _ => ?_)
          clear hK K
          try simp only [Act.put, List.setIfInBounds_toArray, List.set_cons_zero, List.set_cons_succ]
          refine wpAnyH_done (by decide +kernel) ?_ _
          have HIN9 : Bx _ := ⟨HIN.out.arm (leastV d.n 0 1000)⟩
          clear hk HIN
          go_wp2
          go_roundw
          case rel => exact ⟨k + 1, _, _, _, _, _, _, _, _, _, _, _, by omega, by go_num, HIN9, HD9, HLF⟩
          case measure => simp [intOf]; omega
        · have n1 : (d.kind == 1) = false := by simpa using hd1
          by_cases hd2 : d.kind = 2
          · -- a crash, Open, perhaps cut off, a crash, and it is opened
            rw [hd2] at k0 n0 n1
            have hk : w4.drew.heap[gx]? = some (rowX gd (.pointer (some ⟨gl, 0, none⟩)) vs (.slice am lm cm) doubt) ∧ w4.drew.heap[gk]? = some (rowK d a2 l2 c2 a3 l3 c3) := ⟨hrx, hrk⟩
            have HDD : Bx (DD w w4.drew X gd s) := ⟨HDL.out.dd.drewN 1⟩
            replace HLF : Bx (Lf w.heap.size w4.drew gx X gd (.pointer (some ⟨gl, 0, none⟩)) vs am lm cm S M doubt) := ⟨HLF.out.below (below_drewN (Below.refl _ _) 1)⟩
            have HOC : Bx (s.O.length ≤ 1000000) := ⟨by have := HOL.out; omega⟩
            clear hrk hrx HRK hd0 hd1 hd2 HDL
            go_wp2_with fail
            clear k0
            refine wp_region_held_drew (S := fun W => W.heap[gx]? = some (rowX gd (.pointer (some ⟨gl, 0, none⟩)) vs (.slice am lm cm) doubt) ∧ W.heap[gk]? = some (rowK d a2 l2 c2 a3 l3 c3)) (by kernel_rfl) hk (fun _ => ?_)
            generalize w4.drew = wd at hk HDD HLF ⊢
            refine wpAnyH_take (i := 0) (oi := { dst := some 90, op := Op.move (Operand.tmp 5), type := 59, pos := "law.go:167", after := #[], guard := none }) (v := ?vkp201) rfl (by kernel_rfl) (by kernel_rfl) (by kernel_rfl) (fun _ _ _ h => h) (Or.inl ⟨by rfl, ?ykp201⟩) hk ?rkp201
            case ykp201 => (intro w hSw; (try dsimp only at hSw); go_simp; first | done | with_reducible rfl)
            simp only [Act.put, List.setIfInBounds_toArray, List.set_cons_zero, List.set_cons_succ]
            refine wpAnyH_take (i := 1) (oi := { dst := some 91, op := Op.nilCheck (Operand.tmp 90), type := 0, pos := "law.go:167", after := #[{ on := 0, ground := Ground.data }], guard := none }) (v := ?vkp202) rfl (by kernel_rfl) (by kernel_rfl) (by kernel_rfl) (fun _ _ _ h => h) (Or.inl ⟨by rfl, ?ykp202⟩) hk ?rkp202
            case ykp202 => (intro w hSw; (try dsimp only at hSw); go_simp; first | done | with_reducible rfl)
            simp only [Act.put, List.setIfInBounds_toArray, List.set_cons_zero, List.set_cons_succ]
            refine wpAnyH_take (i := 2) (oi := { dst := some 92, op := Op.fieldAddr 62 (Operand.tmp 91) 0, type := 0, pos := "law.go:167", after := #[{ on := 1, ground := Ground.data }], guard := none }) (v := ?vkp203) rfl (by kernel_rfl) (by kernel_rfl) (by kernel_rfl) (fun _ _ _ h => h) (Or.inl ⟨by rfl, ?ykp203⟩) hk ?rkp203
            case ykp203 => (intro w hSw; (try dsimp only at hSw); go_simp; first | done | with_reducible rfl)
            simp only [Act.put, List.setIfInBounds_toArray, List.set_cons_zero, List.set_cons_succ]
            refine wpAnyH_take (i := 3) (oi := { dst := some 93, op := Op.load 24 (Operand.tmp 92), type := 24, pos := "law.go:167", after := #[{ on := 2, ground := Ground.data }], guard := none }) (v := ?vkp204) rfl (by kernel_rfl) (by kernel_rfl) (by kernel_rfl) (fun _ _ _ h => h) (Or.inl ⟨by rfl, ?ykp204⟩) hk ?rkp204
            case ykp204 => (intro w hSw; have hcw := rx0 hSw.1; clear hSw; go_simp; first | done | with_reducible rfl)
            simp only [Act.put, List.setIfInBounds_toArray, List.set_cons_zero, List.set_cons_succ]
            refine wpAnyH_take (i := 4) (oi := { dst := some 94, op := Op.load 41 (Operand.tmp 7), type := 41, pos := "law.go:167", after := #[], guard := none }) (v := .agg ([.int .i64 d.kind, .int .i64 d.n, .int .i64 d.long, .slice a2 l2 c2, .slice a3 l3 c3]).toArray) rfl (by kernel_rfl) (by kernel_rfl) (by kernel_rfl) (fun _ _ _ h => h) (yieldsIf_load_mid (by rfl) 41 (.tmp 7) rfl gk 0 rfl ([.int .i64 d.kind, .int .i64 d.n, .int .i64 d.long, .slice a2 l2 c2, .slice a3 l3 c3]) _ (fun W h => rkr h.2) Try.underlying41 rfl do_info) hk ?_
            simp only [Act.put, List.setIfInBounds_toArray, List.set_cons_zero, List.set_cons_succ]
            refine wpAnyH_ready (rs := [5]) (by decide +kernel) (by simp) ?_
            refine AllReadyH.cons (o := { dst := some 95, op := Op.call { callee := Callee.value (Operand.func 26), args := #[Operand.tmp 94], argTypes := #[41] }, type := 39, pos := "law.go:167", after := #[{ on := 4, ground := Ground.data }], guard := none }) rfl (fun K hK => ?_) AllReadyH.nil
            go_simp
            refine (keep_any _ _ _ _ a3 l3 c3 d.keep _ (HDV.out.keep.below HDD.out.low)).mono ?_
            rintro e1 w8 ⟨⟨mk, rfl, hmk, hB8⟩, hb8⟩
            have hml : mk ≤ l3 := by have h1 := hB8.len_eq; have h2 := HDV.out.keep.len_eq; rw [List.length_take] at h1; omega
            replace hk : w8.heap[gx]? = some (rowX gd (.pointer (some ⟨gl, 0, none⟩)) vs (.slice am lm cm) doubt) ∧ w8.heap[gk]? = some (rowK d a2 l2 c2 a3 l3 c3) := ⟨(hb8.block gx (HLF.out.lt gx HLF.out.og)).trans hk.1, (hb8.block gk (HLF.out.lt gk HGK.out)).trans hk.2⟩
            replace HDD : Bx (DD w w8 X gd s) := ⟨HDD.out.step hb8⟩
            replace HLF : Bx (Lf w.heap.size w8 gx X gd (.pointer (some ⟨gl, 0, none⟩)) vs am lm cm S M doubt) := ⟨HLF.out.below hb8⟩
            clear hb8
            refine hK.out _ _ hk (fun _ => ?_)
            clear hK K
            try simp only [Act.put, List.setIfInBounds_toArray, List.set_cons_zero, List.set_cons_succ]
            refine wpAnyH_ready (rs := [6]) (by decide +kernel) (by simp) ?_
            refine AllReadyH.cons (o := { dst := some 96, op := Op.call { callee := Callee.value (Operand.func 25), args := #[Operand.tmp 93, Operand.tmp 95], argTypes := #[24, 39] }, type := 25, pos := "law.go:167", after := #[{ on := 3, ground := Ground.data }, { on := 5, ground := Ground.data }, { on := 5, ground := Ground.chain }], guard := none }) rfl (fun K hK => ?_) AllReadyH.nil
            go_simp
            refine (dd_crash w _ X gd s a3 mk c3 _ HDD.out hB8 (bls_far HDV.out.keep hml) HOC.out).mono ?_
            rintro e1 w9 ⟨rfl, hD9, hx9⟩
            replace hk : w9.heap[gx]? = some (rowX gd (.pointer (some ⟨gl, 0, none⟩)) vs (.slice am lm cm) doubt) ∧ w9.heap[gk]? = some (rowK d a2 l2 c2 a3 l3 c3) := ⟨(hx9.2 gx HLF.out.og).trans hk.1, (hx9.2 gk HGK.out).trans hk.2⟩
            replace HLF : Bx (Lf w.heap.size w9 gx X gd (.pointer (some ⟨gl, 0, none⟩)) vs am lm cm S M doubt) := ⟨HLF.out.xk hx9⟩
            replace HDD : Bx _ := ⟨hD9⟩
            clear hD9 hx9 hB8 hml hmk
            refine hK.out _ _ hk (fun _ => ?_)
            clear hK K
            try simp only [Act.put, List.setIfInBounds_toArray, List.set_cons_zero, List.set_cons_succ]
            refine wpAnyH_done (by decide +kernel) ?_ _
            obtain ⟨T, hLT⟩ := HIN.out.left (d.keep.take 400)
            have HLT : Bx _ := ⟨hLT⟩
            clear hLT HOC
            generalize s.cr (d.keep.take 400) = s1 at HDD HLT
            obtain ⟨w6, hw6⟩ : ∃ w6, w6 = w9 := ⟨_, rfl⟩
            rw [← hw6] at HDD HLF hk ⊢
            clear hw6
            have HLB : Bx (leastV d.n 0 1000 ≤ 9223372036854775807) := ⟨by have := least_bd d.n 0 1000 (by decide); omega⟩
            replace hk : w6.drew.heap[gx]? = some (rowX gd (.pointer (some ⟨gl, 0, none⟩)) vs (.slice am lm cm) doubt) ∧ w6.drew.heap[gk]? = some (rowK d a2 l2 c2 a3 l3 c3) := hk
            replace HDD : Bx (DD w w6.drew X gd s1) := ⟨HDD.out.drewN 1⟩
            replace HLF : Bx (Lf w.heap.size w6.drew gx X gd (.pointer (some ⟨gl, 0, none⟩)) vs am lm cm S M doubt) := ⟨HLF.out.below (below_drewN (Below.refl _ _) 1)⟩
            go_wp2_with fail
            refine wp_region_held_drew (S := fun W => W.heap[gx]? = some (rowX gd (.pointer (some ⟨gl, 0, none⟩)) vs (.slice am lm cm) doubt) ∧ W.heap[gk]? = some (rowK d a2 l2 c2 a3 l3 c3)) (by kernel_rfl) hk (fun _ => ?_)
            generalize w6.drew = wd at hk HDD HLF ⊢
            refine wpAnyH_take (i := 0) (oi := { dst := some 97, op := Op.move (Operand.tmp 5), type := 59, pos := "law.go:168", after := #[], guard := none }) (v := ?vkp211) rfl (by kernel_rfl) (by kernel_rfl) (by kernel_rfl) (fun _ _ _ h => h) (Or.inl ⟨by rfl, ?ykp211⟩) hk ?rkp211
            case ykp211 => (intro w hSw; (try dsimp only at hSw); go_simp; first | done | with_reducible rfl)
            simp only [Act.put, List.setIfInBounds_toArray, List.set_cons_zero, List.set_cons_succ]
            refine wpAnyH_take (i := 1) (oi := { dst := some 98, op := Op.nilCheck (Operand.tmp 97), type := 0, pos := "law.go:168", after := #[{ on := 0, ground := Ground.data }], guard := none }) (v := ?vkp212) rfl (by kernel_rfl) (by kernel_rfl) (by kernel_rfl) (fun _ _ _ h => h) (Or.inl ⟨by rfl, ?ykp212⟩) hk ?rkp212
            case ykp212 => (intro w hSw; (try dsimp only at hSw); go_simp; first | done | with_reducible rfl)
            simp only [Act.put, List.setIfInBounds_toArray, List.set_cons_zero, List.set_cons_succ]
            refine wpAnyH_take (i := 2) (oi := { dst := some 99, op := Op.fieldAddr 62 (Operand.tmp 98) 0, type := 0, pos := "law.go:168", after := #[{ on := 1, ground := Ground.data }], guard := none }) (v := ?vkp213) rfl (by kernel_rfl) (by kernel_rfl) (by kernel_rfl) (fun _ _ _ h => h) (Or.inl ⟨by rfl, ?ykp213⟩) hk ?rkp213
            case ykp213 => (intro w hSw; (try dsimp only at hSw); go_simp; first | done | with_reducible rfl)
            simp only [Act.put, List.setIfInBounds_toArray, List.set_cons_zero, List.set_cons_succ]
            refine wpAnyH_take (i := 3) (oi := { dst := some 100, op := Op.load 24 (Operand.tmp 99), type := 24, pos := "law.go:168", after := #[{ on := 2, ground := Ground.data }], guard := none }) (v := ?vkp214) rfl (by kernel_rfl) (by kernel_rfl) (by kernel_rfl) (fun _ _ _ h => h) (Or.inl ⟨by rfl, ?ykp214⟩) hk ?rkp214
            case ykp214 => (intro w hSw; have hcw := rx0 hSw.1; clear hSw; go_simp; first | done | with_reducible rfl)
            simp only [Act.put, List.setIfInBounds_toArray, List.set_cons_zero, List.set_cons_succ]
            refine wpAnyH_take (i := 4) (oi := { dst := some 101, op := Op.fieldAddr 41 (Operand.tmp 7) 1, type := 0, pos := "law.go:168", after := #[], guard := none }) (v := ?vkp215) rfl (by kernel_rfl) (by kernel_rfl) (by kernel_rfl) (fun _ _ _ h => h) (Or.inl ⟨by rfl, ?ykp215⟩) hk ?rkp215
            case ykp215 => (intro w hSw; (try dsimp only at hSw); go_simp; first | done | with_reducible rfl)
            simp only [Act.put, List.setIfInBounds_toArray, List.set_cons_zero, List.set_cons_succ]
            refine wpAnyH_take (i := 5) (oi := { dst := some 102, op := Op.load 3 (Operand.tmp 101), type := 3, pos := "law.go:168", after := #[{ on := 4, ground := Ground.data }], guard := none }) (v := ?vkp216) rfl (by kernel_rfl) (by kernel_rfl) (by kernel_rfl) (fun _ _ _ h => h) (Or.inl ⟨by rfl, ?ykp216⟩) hk ?rkp216
            case ykp216 => (intro w hSw; have hcw := rk1 hSw.2; clear hSw; go_simp; first | done | with_reducible rfl)
            simp only [Act.put, List.setIfInBounds_toArray, List.set_cons_zero, List.set_cons_succ]
            refine wpAnyH_ready (rs := [6]) (by decide +kernel) (by simp) ?_
            refine AllReadyH.cons (o := { dst := some 103, op := Op.call { callee := Callee.value (Operand.func 9), args := #[Operand.tmp 102, Operand.const (Value.int IntKind.i64 0), Operand.const (Value.int IntKind.i64 1000)], argTypes := #[3, 3, 3] }, type := 3, pos := "law.go:168", after := #[{ on := 5, ground := Ground.data }], guard := none }) rfl (fun K hK => ?_) AllReadyH.nil
            go_simp
            refine (least_any _ _ _ _).mono ?_
            rintro e1 w8 ⟨rfl, rfl⟩
            refine hK.out _ _ hk (fun _ => ?_)
            clear hK K
            try simp only [Act.put, List.setIfInBounds_toArray, List.set_cons_zero, List.set_cons_succ]
            refine wpAnyH_ready (rs := [7]) (by decide +kernel) (by simp) ?_
            refine AllReadyH.cons (o := { dst := some 104, op := Op.call { callee := Callee.value (Operand.func 18), args := #[Operand.tmp 100, Operand.tmp 103], argTypes := #[24, 3] }, type := 25, pos := "law.go:168", after := #[{ on := 3, ground := Ground.data }, { on := 6, ground := Ground.data }, { on := 6, ground := Ground.chain }], guard := none }) rfl (fun K hK => ?_) AllReadyH.nil
            go_simp
            refine (dd_arm w _ X gd s1 _ HDD.out HLB.out).mono ?_
            rintro e1 w9 ⟨rfl, hD9, hx9⟩
            replace hk : w9.heap[gx]? = some (rowX gd (.pointer (some ⟨gl, 0, none⟩)) vs (.slice am lm cm) doubt) ∧ w9.heap[gk]? = some (rowK d a2 l2 c2 a3 l3 c3) := ⟨(hx9.2 gx HLF.out.og).trans hk.1, (hx9.2 gk HGK.out).trans hk.2⟩
            replace HLF : Bx (Lf w.heap.size w9 gx X gd (.pointer (some ⟨gl, 0, none⟩)) vs am lm cm S M doubt) := ⟨HLF.out.xk hx9⟩
            have HD9 : Bx _ := ⟨hD9⟩
            clear hD9 hx9 HDD
            refine hK.out _ _ hk (fun _ => ?_)
            clear hK K
            try simp only [Act.put, List.setIfInBounds_toArray, List.set_cons_zero, List.set_cons_succ]
            refine wpAnyH_done (by decide +kernel) ?_ _
            obtain ⟨o1, o2, o3, o4, o5, o6⟩ := HLT.out.open (leastV d.n 0 1000) HD9.out.ok
            have HO6 : Bx _ := ⟨o6⟩
            have HO5 : Bx _ := ⟨o5⟩
            generalize s1.arE (leastV d.n 0 1000) = E1
            generalize s1.ar (leastV d.n 0 1000) = s1' at HD9 o1 o2 o3 o4 HO6 HO5
            have x0 := rx0 hk.1
            rcases o4 with o4 | o4
            · go_wp2_with fail
              refine (dd_open w _ X gd s1' T HD9.out o1 o2 o3 o4).mono ?_
              rintro e w10 ⟨gq, rfl, hDL10, hx10⟩
              have HDD : Bx _ := ⟨hDL10.dd⟩
              clear hDL10
              replace HLF : Bx (Lf w.heap.size w10 gx X gd (.pointer (some ⟨gl, 0, none⟩)) vs am lm cm S M doubt) := ⟨HLF.out.xk hx10⟩
              replace hk : w10.drew.heap[gx]? = some (rowX gd (.pointer (some ⟨gl, 0, none⟩)) vs (.slice am lm cm) doubt) ∧ w10.drew.heap[gk]? = some (rowK d a2 l2 c2 a3 l3 c3) := ⟨(hx10.2 gx HLF.out.og).trans hk.1, (hx10.2 gk HGK.out).trans hk.2⟩
              replace HLF : Bx (Lf w.heap.size w10.drew gx X gd (.pointer (some ⟨gl, 0, none⟩)) vs am lm cm S M doubt) := ⟨HLF.out.below (below_drewN (Below.refl _ _) 1)⟩
              generalize s1'.wipS (FrS 0 T).length = s2 at HDD HO6 HO5
              have HOC : Bx (s2.O.length ≤ 1000000) := ⟨by have := HO5.out; omega⟩
              replace HDD : Bx (DD w w10.drew X gd s2) := ⟨HDD.out.drewN 1⟩
              have HLT2 : Bx _ := ⟨HO6.out (d.keep.take 400)⟩
              clear hx10 x0 o1 o2 o3 o4 HD9 HO6 HO5 HLT
              go_wp2_with fail
              refine wp_region_held_drew (S := fun W => W.heap[gx]? = some (rowX gd (.pointer (some ⟨gl, 0, none⟩)) vs (.slice am lm cm) doubt) ∧ W.heap[gk]? = some (rowK d a2 l2 c2 a3 l3 c3)) (by kernel_rfl) hk (fun _ => ?_)
              generalize w10.drew = wd at hk HDD HLF ⊢
              refine wpAnyH_take (i := 0) (oi := { dst := some 123, op := Op.move (Operand.tmp 5), type := 59, pos := "law.go:172", after := #[], guard := none }) (v := ?vkp251) rfl (by kernel_rfl) (by kernel_rfl) (by kernel_rfl) (fun _ _ _ h => h) (Or.inl ⟨by rfl, ?ykp251⟩) hk ?rkp251
              case ykp251 => (intro w hSw; (try dsimp only at hSw); go_simp; first | done | with_reducible rfl)
              simp only [Act.put, List.setIfInBounds_toArray, List.set_cons_zero, List.set_cons_succ]
              refine wpAnyH_take (i := 1) (oi := { dst := some 124, op := Op.nilCheck (Operand.tmp 123), type := 0, pos := "law.go:172", after := #[{ on := 0, ground := Ground.data }], guard := none }) (v := ?vkp252) rfl (by kernel_rfl) (by kernel_rfl) (by kernel_rfl) (fun _ _ _ h => h) (Or.inl ⟨by rfl, ?ykp252⟩) hk ?rkp252
              case ykp252 => (intro w hSw; (try dsimp only at hSw); go_simp; first | done | with_reducible rfl)
              simp only [Act.put, List.setIfInBounds_toArray, List.set_cons_zero, List.set_cons_succ]
              refine wpAnyH_take (i := 2) (oi := { dst := some 125, op := Op.fieldAddr 62 (Operand.tmp 124) 0, type := 0, pos := "law.go:172", after := #[{ on := 1, ground := Ground.data }], guard := none }) (v := ?vkp253) rfl (by kernel_rfl) (by kernel_rfl) (by kernel_rfl) (fun _ _ _ h => h) (Or.inl ⟨by rfl, ?ykp253⟩) hk ?rkp253
              case ykp253 => (intro w hSw; (try dsimp only at hSw); go_simp; first | done | with_reducible rfl)
              simp only [Act.put, List.setIfInBounds_toArray, List.set_cons_zero, List.set_cons_succ]
              refine wpAnyH_take (i := 3) (oi := { dst := some 126, op := Op.load 24 (Operand.tmp 125), type := 24, pos := "law.go:172", after := #[{ on := 2, ground := Ground.data }], guard := none }) (v := ?vkp254) rfl (by kernel_rfl) (by kernel_rfl) (by kernel_rfl) (fun _ _ _ h => h) (Or.inl ⟨by rfl, ?ykp254⟩) hk ?rkp254
              case ykp254 => (intro w hSw; have hcw := rx0 hSw.1; clear hSw; go_simp; first | done | with_reducible rfl)
              simp only [Act.put, List.setIfInBounds_toArray, List.set_cons_zero, List.set_cons_succ]
              refine wpAnyH_take (i := 4) (oi := { dst := some 127, op := Op.load 41 (Operand.tmp 7), type := 41, pos := "law.go:172", after := #[], guard := none }) (v := .agg ([.int .i64 d.kind, .int .i64 d.n, .int .i64 d.long, .slice a2 l2 c2, .slice a3 l3 c3]).toArray) rfl (by kernel_rfl) (by kernel_rfl) (by kernel_rfl) (fun _ _ _ h => h) (yieldsIf_load_mid (by rfl) 41 (.tmp 7) rfl gk 0 rfl ([.int .i64 d.kind, .int .i64 d.n, .int .i64 d.long, .slice a2 l2 c2, .slice a3 l3 c3]) _ (fun W h => rkr h.2) Try.underlying41 rfl do_info) hk ?_
              simp only [Act.put, List.setIfInBounds_toArray, List.set_cons_zero, List.set_cons_succ]
              refine wpAnyH_ready (rs := [5]) (by decide +kernel) (by simp) ?_
              refine AllReadyH.cons (o := { dst := some 128, op := Op.call { callee := Callee.value (Operand.func 26), args := #[Operand.tmp 127], argTypes := #[41] }, type := 39, pos := "law.go:172", after := #[{ on := 4, ground := Ground.data }], guard := none }) rfl (fun K hK => ?_) AllReadyH.nil
              go_simp
              refine (keep_any _ _ _ _ a3 l3 c3 d.keep _ (HDV.out.keep.below HDD.out.low)).mono ?_
              rintro e1 w8 ⟨⟨mk, rfl, hmk, hB8⟩, hb8⟩
              have hml : mk ≤ l3 := by have h1 := hB8.len_eq; have h2 := HDV.out.keep.len_eq; rw [List.length_take] at h1; omega
              replace hk : w8.heap[gx]? = some (rowX gd (.pointer (some ⟨gl, 0, none⟩)) vs (.slice am lm cm) doubt) ∧ w8.heap[gk]? = some (rowK d a2 l2 c2 a3 l3 c3) := ⟨(hb8.block gx (HLF.out.lt gx HLF.out.og)).trans hk.1, (hb8.block gk (HLF.out.lt gk HGK.out)).trans hk.2⟩
              replace HDD : Bx (DD w w8 X gd s2) := ⟨HDD.out.step hb8⟩
              replace HLF : Bx (Lf w.heap.size w8 gx X gd (.pointer (some ⟨gl, 0, none⟩)) vs am lm cm S M doubt) := ⟨HLF.out.below hb8⟩
              clear hb8
              refine hK.out _ _ hk (fun _ => ?_)
              clear hK K
              try simp only [Act.put, List.setIfInBounds_toArray, List.set_cons_zero, List.set_cons_succ]
              refine wpAnyH_ready (rs := [6]) (by decide +kernel) (by simp) ?_
              refine AllReadyH.cons (o := { dst := some 129, op := Op.call { callee := Callee.value (Operand.func 25), args := #[Operand.tmp 126, Operand.tmp 128], argTypes := #[24, 39] }, type := 25, pos := "law.go:172", after := #[{ on := 3, ground := Ground.data }, { on := 5, ground := Ground.data }, { on := 5, ground := Ground.chain }], guard := none }) rfl (fun K hK => ?_) AllReadyH.nil
              go_simp
              refine (dd_crash w _ X gd s2 a3 mk c3 _ HDD.out hB8 (bls_far HDV.out.keep hml) HOC.out).mono ?_
              rintro e1 w9 ⟨rfl, hD9, hx9⟩
              replace hk : w9.heap[gx]? = some (rowX gd (.pointer (some ⟨gl, 0, none⟩)) vs (.slice am lm cm) doubt) ∧ w9.heap[gk]? = some (rowK d a2 l2 c2 a3 l3 c3) := ⟨(hx9.2 gx HLF.out.og).trans hk.1, (hx9.2 gk HGK.out).trans hk.2⟩
              replace HLF : Bx (Lf w.heap.size w9 gx X gd (.pointer (some ⟨gl, 0, none⟩)) vs am lm cm S M doubt) := ⟨HLF.out.xk hx9⟩
              replace HDD : Bx _ := ⟨hD9⟩
              clear hD9 hx9 hB8 hml hmk
              refine hK.out _ _ hk (fun _ => ?_)
              clear hK K
              try simp only [Act.put, List.setIfInBounds_toArray, List.set_cons_zero, List.set_cons_succ]
              refine wpAnyH_done (by decide +kernel) ?_ _
              clear hk
              generalize s2.cr (d.keep.take 400) = s3 at HDD HLT2
              go_wp2_with fail
              refine (opens_any w _ X gx gd n s3 _ vs am lm cm S T M doubt HDD.out HLF.out HLT2.out).mono ?_
              rintro e w11 ⟨rfl, gl2, X2, vs2, s4, hDL11, hLF11, hRS11, hFn11, _⟩
              have HIN11 : Bx (Inv n s4 T M false (lgs T)) := ⟨Inv.rest hRS11 hFn11⟩
              have HDL11 : Bx _ := ⟨hDL11⟩
              have HLF11 : Bx _ := ⟨hLF11⟩
              clear hDL11 hLF11 hRS11 hFn11 HDD HLF HLT2
              go_wp2
              go_roundw
              case rel => exact ⟨k + 1, _, _, _, _, _, _, _, _, _, _, _, by omega, by go_num, HIN11, HDL11, HLF11⟩
              case measure => simp [intOf]; omega
            · have hne : s1'.wipE (FrS 0 T).length ≠ 0 := by rw [o4]; decide
              go_wp2_with fail
              refine (dd_open_err w _ X gd s1' T HD9.out o1 o2 o3 hne).mono ?_
              rintro e w10 ⟨rfl, hDD10, hx10⟩
              rw [o4]
              have HDD : Bx _ := ⟨hDD10⟩
              clear hDD10 hne
              replace HLF : Bx (Lf w.heap.size w10 gx X gd (.pointer (some ⟨gl, 0, none⟩)) vs am lm cm S M doubt) := ⟨HLF.out.xk hx10⟩
              replace hk : w10.drew.heap[gx]? = some (rowX gd (.pointer (some ⟨gl, 0, none⟩)) vs (.slice am lm cm) doubt) ∧ w10.drew.heap[gk]? = some (rowK d a2 l2 c2 a3 l3 c3) := ⟨(hx10.2 gx HLF.out.og).trans hk.1, (hx10.2 gk HGK.out).trans hk.2⟩
              replace HLF : Bx (Lf w.heap.size w10.drew gx X gd (.pointer (some ⟨gl, 0, none⟩)) vs am lm cm S M doubt) := ⟨HLF.out.below (below_drewN (Below.refl _ _) 1)⟩
              generalize s1'.wipS (FrS 0 T).length = s2 at HDD HO6 HO5
              have HOC : Bx (s2.O.length ≤ 1000000) := ⟨by have := HO5.out; omega⟩
              replace HDD : Bx (DD w w10.drew X gd s2) := ⟨HDD.out.drewN 1⟩
              have HLT2 : Bx _ := ⟨HO6.out (d.keep.take 400)⟩
              clear hx10 x0 o1 o2 o3 o4 HD9 HO6 HO5 HLT
              go_wp2_with fail
              refine wp_region_held_drew (S := fun W => W.heap[gx]? = some (rowX gd (.pointer (some ⟨gl, 0, none⟩)) vs (.slice am lm cm) doubt) ∧ W.heap[gk]? = some (rowK d a2 l2 c2 a3 l3 c3)) (by kernel_rfl) hk (fun _ => ?_)
              generalize w10.drew = wd at hk HDD HLF ⊢
              refine wpAnyH_take (i := 0) (oi := { dst := some 123, op := Op.move (Operand.tmp 5), type := 59, pos := "law.go:172", after := #[], guard := none }) (v := ?vkp25b1) rfl (by kernel_rfl) (by kernel_rfl) (by kernel_rfl) (fun _ _ _ h => h) (Or.inl ⟨by rfl, ?ykp25b1⟩) hk ?rkp25b1
              case ykp25b1 => (intro w hSw; (try dsimp only at hSw); go_simp; first | done | with_reducible rfl)
              simp only [Act.put, List.setIfInBounds_toArray, List.set_cons_zero, List.set_cons_succ]
              refine wpAnyH_take (i := 1) (oi := { dst := some 124, op := Op.nilCheck (Operand.tmp 123), type := 0, pos := "law.go:172", after := #[{ on := 0, ground := Ground.data }], guard := none }) (v := ?vkp25b2) rfl (by kernel_rfl) (by kernel_rfl) (by kernel_rfl) (fun _ _ _ h => h) (Or.inl ⟨by rfl, ?ykp25b2⟩) hk ?rkp25b2
              case ykp25b2 => (intro w hSw; (try dsimp only at hSw); go_simp; first | done | with_reducible rfl)
              simp only [Act.put, List.setIfInBounds_toArray, List.set_cons_zero, List.set_cons_succ]
              refine wpAnyH_take (i := 2) (oi := { dst := some 125, op := Op.fieldAddr 62 (Operand.tmp 124) 0, type := 0, pos := "law.go:172", after := #[{ on := 1, ground := Ground.data }], guard := none }) (v := ?vkp25b3) rfl (by kernel_rfl) (by kernel_rfl) (by kernel_rfl) (fun _ _ _ h => h) (Or.inl ⟨by rfl, ?ykp25b3⟩) hk ?rkp25b3
              case ykp25b3 => (intro w hSw; (try dsimp only at hSw); go_simp; first | done | with_reducible rfl)
              simp only [Act.put, List.setIfInBounds_toArray, List.set_cons_zero, List.set_cons_succ]
              refine wpAnyH_take (i := 3) (oi := { dst := some 126, op := Op.load 24 (Operand.tmp 125), type := 24, pos := "law.go:172", after := #[{ on := 2, ground := Ground.data }], guard := none }) (v := ?vkp25b4) rfl (by kernel_rfl) (by kernel_rfl) (by kernel_rfl) (fun _ _ _ h => h) (Or.inl ⟨by rfl, ?ykp25b4⟩) hk ?rkp25b4
              case ykp25b4 => (intro w hSw; have hcw := rx0 hSw.1; clear hSw; go_simp; first | done | with_reducible rfl)
              simp only [Act.put, List.setIfInBounds_toArray, List.set_cons_zero, List.set_cons_succ]
              refine wpAnyH_take (i := 4) (oi := { dst := some 127, op := Op.load 41 (Operand.tmp 7), type := 41, pos := "law.go:172", after := #[], guard := none }) (v := .agg ([.int .i64 d.kind, .int .i64 d.n, .int .i64 d.long, .slice a2 l2 c2, .slice a3 l3 c3]).toArray) rfl (by kernel_rfl) (by kernel_rfl) (by kernel_rfl) (fun _ _ _ h => h) (yieldsIf_load_mid (by rfl) 41 (.tmp 7) rfl gk 0 rfl ([.int .i64 d.kind, .int .i64 d.n, .int .i64 d.long, .slice a2 l2 c2, .slice a3 l3 c3]) _ (fun W h => rkr h.2) Try.underlying41 rfl do_info) hk ?_
              simp only [Act.put, List.setIfInBounds_toArray, List.set_cons_zero, List.set_cons_succ]
              refine wpAnyH_ready (rs := [5]) (by decide +kernel) (by simp) ?_
              refine AllReadyH.cons (o := { dst := some 128, op := Op.call { callee := Callee.value (Operand.func 26), args := #[Operand.tmp 127], argTypes := #[41] }, type := 39, pos := "law.go:172", after := #[{ on := 4, ground := Ground.data }], guard := none }) rfl (fun K hK => ?_) AllReadyH.nil
              go_simp
              refine (keep_any _ _ _ _ a3 l3 c3 d.keep _ (HDV.out.keep.below HDD.out.low)).mono ?_
              rintro e1 w8 ⟨⟨mk, rfl, hmk, hB8⟩, hb8⟩
              have hml : mk ≤ l3 := by have h1 := hB8.len_eq; have h2 := HDV.out.keep.len_eq; rw [List.length_take] at h1; omega
              replace hk : w8.heap[gx]? = some (rowX gd (.pointer (some ⟨gl, 0, none⟩)) vs (.slice am lm cm) doubt) ∧ w8.heap[gk]? = some (rowK d a2 l2 c2 a3 l3 c3) := ⟨(hb8.block gx (HLF.out.lt gx HLF.out.og)).trans hk.1, (hb8.block gk (HLF.out.lt gk HGK.out)).trans hk.2⟩
              replace HDD : Bx (DD w w8 X gd s2) := ⟨HDD.out.step hb8⟩
              replace HLF : Bx (Lf w.heap.size w8 gx X gd (.pointer (some ⟨gl, 0, none⟩)) vs am lm cm S M doubt) := ⟨HLF.out.below hb8⟩
              clear hb8
              refine hK.out _ _ hk (fun _ => ?_)
              clear hK K
              try simp only [Act.put, List.setIfInBounds_toArray, List.set_cons_zero, List.set_cons_succ]
              refine wpAnyH_ready (rs := [6]) (by decide +kernel) (by simp) ?_
              refine AllReadyH.cons (o := { dst := some 129, op := Op.call { callee := Callee.value (Operand.func 25), args := #[Operand.tmp 126, Operand.tmp 128], argTypes := #[24, 39] }, type := 25, pos := "law.go:172", after := #[{ on := 3, ground := Ground.data }, { on := 5, ground := Ground.data }, { on := 5, ground := Ground.chain }], guard := none }) rfl (fun K hK => ?_) AllReadyH.nil
              go_simp
              refine (dd_crash w _ X gd s2 a3 mk c3 _ HDD.out hB8 (bls_far HDV.out.keep hml) HOC.out).mono ?_
              rintro e1 w9 ⟨rfl, hD9, hx9⟩
              replace hk : w9.heap[gx]? = some (rowX gd (.pointer (some ⟨gl, 0, none⟩)) vs (.slice am lm cm) doubt) ∧ w9.heap[gk]? = some (rowK d a2 l2 c2 a3 l3 c3) := ⟨(hx9.2 gx HLF.out.og).trans hk.1, (hx9.2 gk HGK.out).trans hk.2⟩
              replace HLF : Bx (Lf w.heap.size w9 gx X gd (.pointer (some ⟨gl, 0, none⟩)) vs am lm cm S M doubt) := ⟨HLF.out.xk hx9⟩
              replace HDD : Bx _ := ⟨hD9⟩
              clear hD9 hx9 hB8 hml hmk
              refine hK.out _ _ hk (fun _ => ?_)
              clear hK K
              try simp only [Act.put, List.setIfInBounds_toArray, List.set_cons_zero, List.set_cons_succ]
              refine wpAnyH_done (by decide +kernel) ?_ _
              clear hk
              generalize s2.cr (d.keep.take 400) = s3 at HDD HLT2
              go_wp2_with fail
              refine (opens_any w _ X gx gd n s3 _ vs am lm cm S T M doubt HDD.out HLF.out HLT2.out).mono ?_
              rintro e w11 ⟨rfl, gl2, X2, vs2, s4, hDL11, hLF11, hRS11, hFn11, _⟩
              have HIN11 : Bx (Inv n s4 T M false (lgs T)) := ⟨Inv.rest hRS11 hFn11⟩
              have HDL11 : Bx _ := ⟨hDL11⟩
              have HLF11 : Bx _ := ⟨hLF11⟩
              clear hDL11 hLF11 hRS11 hFn11 HDD HLF HLT2
              go_wp2
              go_roundw
              case rel => exact ⟨k + 1, _, _, _, _, _, _, _, _, _, _, _, by omega, by go_num, HIN11, HDL11, HLF11⟩
              case measure => simp [intOf]; omega
          · have n2 : (d.kind == 2) = false := by simpa using hd2
            clear hrk hrx HRK
            generalize d.kind = dk at k0 n0 n1 n2
            go_wp2
            go_roundw
            case rel => exact ⟨k + 1, _, _, _, _, _, _, _, _, _, _, _, by omega, by go_num, HIN, HDL, HLF⟩
            case measure => simp [intOf]; omega
    · have hkI : ¬ (k : Int) < (m : Int) := by omega
      have x0 := rx0 HLF.out.row
      obtain ⟨T, hLT⟩ := HIN.out.left []
      have HLT : Bx _ := ⟨hLT⟩
      have HDD : Bx _ := ⟨HDL.out.dd⟩
      have HOC : Bx (s.O.length ≤ 1000000) := ⟨by have := HIN.out.2.1; omega⟩
      clear hLT HDL HM
      go_wp2_with fail
      refine (dd_crash w _ X gd s none 0 0 [] HDD.out (bls_nil _ _) (fun hp => absurd hp (Nat.lt_irrefl _)) HOC.out).mono ?_
      rintro e w6 ⟨rfl, hDD6, hx6⟩
      have HLF6 : Bx _ := ⟨HLF.out.xk hx6⟩
      replace HDD : Bx _ := ⟨hDD6⟩
      clear hDD6 hx6 x0 HLF
      go_wp2_with fail
      refine (opens_any w _ X gx gd n _ _ vs am lm cm S T M doubt HDD.out HLF6.out HLT.out).mono ?_
      rintro e w7 ⟨rfl, gl2, X2, vs2, s2, hDL7, _, _, _, _⟩
      have HLW : Bx _ := ⟨hDL7.low⟩
      clear hDL7
      go_wp2_with fail
      refine (lives_any _).mono ?_
      rintro e w8 ⟨rfl, hb8⟩
      have HLW8 : Bx (Below w.heap.size w w8) := ⟨bstep HLW.out hb8⟩
      clear hb8 HLW
      go_wp2
      go_ret
      exact ⟨rfl, HLW8.out⟩

set_option maxRecDepth 100000 in
theorem lifted (os : Os) (started : os.Started) (H : Type) (enc : TypeId × Value → H) :
    ReturnsInHanded {} Try.checked os 4 .any (Rows.walKeptSpec.pre6 enc Try.prog Try.f4 Rows.walKeptRow.domain false) (Rows.walKeptSpec.post enc Try.prog Try.f4 false true false false) := by
  refine returnsInHanded_of_change (C := Try.checked) own started (by kernel_rfl) Try.func4
    (ChangeSpec.witness6 (enc := enc) (C := Try.checked) false ⟨#[], #[.int .i64 0, .slice none 0 0], []⟩ 8 (by kernel_rfl) (by kernel_rfl) (by kernel_rfl) (by kernel_rfl)) ?_
  intro W base args ds gs before hval0 hW hcnd _
  have hval : ∀ (j : Nat) t v, Try.f4.params[j]? = some t → args[j]? = some v → Value.okWide Try.prog W .any base t v := hval0
  have hW' := hW
  obtain ⟨p, q, hA0, hV, rfl, hfz, hnd⟩ := hW
  have hA : DataW.TrodAll enc Try.prog W 0 (fun _ => true) true Try.f4.params.toList args.toList ds p := hA0
  rw [Try.params4] at hA hval
  obtain ⟨v0, vs0, d0, ds0, p0, q0, hargs, rfl, rfl, h0, r0⟩ := trodAll_cons hA
  obtain ⟨v1, vs1, d1, ds1, p1, q1, rfl, rfl, rfl, h1, r1⟩ := trodAll_cons r0
  obtain ⟨rfl, rfl, rfl⟩ := trodAll_nil r1
  obtain rfl : args = #[v0, v1] := by cases args; simp_all
  obtain ⟨rfl, rfl⟩ := trodVars_none hV
  obtain ⟨a1, len1, cap1, rfl⟩ := okWide_slice Try.underlying22 (hval 1 22 v1 rfl rfl)
  have k0 := h0
  have lt0 : ∀ x ∈ p0, x.block < W.heap.size := by obtain ⟨m, hm⟩ := k0; exact DataW.trod_lt m _ _ _ hm
  have k1 := h1
  have lt1 : ∀ x ∈ p1, x.block < W.heap.size := by obtain ⟨m, hm⟩ := k1; exact DataW.trod_lt m _ _ _ hm
  obtain ⟨x, rfl, hx⟩ := open_i64 (hval 0 3 v0 rfl rfl) h0
  obtain ⟨L, hL⟩ := open_dos h1
  clear hA0 hval0
  refine (walk x a1 len1 cap1 L W hx hL).mono fun e W' ⟨he, bel⟩ => ?_
  subst he
  exact ⟨_, rfl, _, _, _, [], _, [], hW', trodAll_mk1 (shut_bool Try.underlying4 _), (trodAll_cons_mk (Below.trod laidOut (by kernel_rfl) (of_decide_eq_true (by kernel_rfl)) k0 bel lt0) (trodAll_cons_mk (Below.trod laidOut (by kernel_rfl) (of_decide_eq_true (by kernel_rfl)) k1 bel lt1) trodAll_mk0)), rfl, bel.frame _, fun h => by cases h⟩

theorem over : Rows.walKeptRow.holds Try.pinned (OpenSpec.ofChange Rows.walKeptSpec) :=
  OpenClaim.holds_of_wide 4 Try.f4 rfl rfl rfl rfl rfl rfl rfl ⟨rfl, rfl, rfl, rfl, rfl⟩ rfl rfl rfl rfl rfl (by kernel_rfl) Try.func4 (by kernel_rfl)
    (of_decide_eq_true (by kernel_rfl)) (by unfold Func.isWrapper; first | (rw [if_pos (by decide +kernel)]; kernel_rfl) | (rw [if_neg (by decide +kernel)]; exact ⟨rfl, rfl⟩))
    (fun os started H enc _ => lifted os started H enc)

/-- the statement -/
theorem proved : Rows.WalKeptSaid := over
end Go.Proofs.Ytigaciflbgbolaa.walKept
namespace Go.Proofs.Ytigaciflbgbolaa
theorem walKept_holds : Rows.WalKeptSaid := walKept.proved
#print axioms walKept_holds
end Go.Proofs.Ytigaciflbgbolaa
