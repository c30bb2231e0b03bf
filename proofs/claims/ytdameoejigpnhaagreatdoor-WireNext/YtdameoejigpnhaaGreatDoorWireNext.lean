/- For all two requests the law WireNext returns true and both requests read as they did (P13.2, P13.6): behind a request the next one begins. The library's tables are as the program's text lays them (the card ties them). -/
import Derived.Test.YtdameoejigpnhaaGreatDoorTDoor
import Derived.LaidMore
import Derived.Lay
import Derived.Test.YtdameoejigpnhaaGreatDoorRN1
import Derived.Test.YtdameoejigpnhaaGreatDoorWrl
import Derived.Test.YtdameoejigpnhaaGreatDoorWLaw
import Derived.Test.YtdameoejigpnhaaGreatDoorSma
import Derived.WalkKit
import Derived.ShutString
import Derived.ChangeOld
import Derived.Below
namespace Go.Proofs.YtdameoejigpnhaaGreatDoor.wireNext
open Go.ChangeShapes Go.WideShapes Go.ChangeAt Go.RowKit
open Go.ChangeMaps (open_string shut_string)
set_option linter.unusedVariables false

theorem laidOut : laidOutB Tryz.prog = true := by kernel_rfl

theorem own_ge9 {wr : World} {base n : Nat} {v : Value} {l : List Int} (ho : wr.ownsRow base 5 1 v n (bv l)) : ∀ j, v.ownBlock = some j → base ≤ j := fun j hj => by
  rcases ho.2 with ⟨h1, _⟩ | ⟨g', cap', cur, hv, hg, _⟩
  · rw [h1] at hj; cases hj
  · rw [hv] at hj; cases hj; exact hg

set_option maxRecDepth 100000 in
set_option maxHeartbeats 1000000 in
theorem walk (x : WX) (a0 : Option Addr) (n0 c0 : Nat) (y : WX) (a1 : Option Addr) (n1 c1 : Nat) (w : World) (hx : Rqs w x a0 n0 c0) (hy : Rqs w y a1 n1 c1) (hL : laidMetH Tryz.prog Rows.wireNextRow.laid w) (hsh : w.ShapedOpen Tryz.prog) :
    Calls Tryz.prog 8 #[reqV x (.slice a0 n0 c0), reqV y (.slice a1 n1 c1)] w fun e w' => e = .returned (.bool true) ∧ Below w.heap.size w w' := by
  have HEV := Bx.mk (env_at (plainH hL (by kernel_rfl)) hsh 2 4 5 rfl rfl rfl)
  clear hL hsh
  have HX := Bx.mk hx
  have HY := Bx.mk hy
  have hal1 := alloc_below w (.cells #[.string x.m, .string x.t, .string x.k, .slice a0 n0 c0] 26)
  have hal2 := alloc_below (w.alloc (.cells #[.string x.m, .string x.t, .string x.k, .slice a0 n0 c0] 26)) (.cells #[.string y.m, .string y.t, .string y.k, .slice a1 n1 c1] 26)
  have HSZ1 : (w.alloc (.cells #[.string x.m, .string x.t, .string x.k, .slice a0 n0 c0] 26)).heap.size = w.heap.size + 1 := by simp
  have HBK := Bx.mk (bstep hal1 hal2)
  have HRX := Bx.mk ((RA.new hx.b).below hal2)
  have hRY := RA.new (hy.b.below hal1)
  rw [HSZ1] at hRY
  have HRY := Bx.mk hRY
  unfold reqV
  generalize hw1 : (w.alloc (.cells #[.string x.m, .string x.t, .string x.k, .slice a0 n0 c0] 26)).alloc (.cells #[.string y.m, .string y.t, .string y.k, .slice a1 n1 c1] 26) = W2 at *
  clear hx hy hal1 hal2 HSZ1 hRY
  go_enter Tryz.func8, Tryz.ntmps8
  go_upto_region 1 with fail
  clear hw1
  go_cut [] from 19 to 22 (fun wx => ∃ a2 c2 a3 c3, Bx (RA wx w.heap.size (ctX x) a2 (ctX x).b.length c2) ∧ Bx (RA wx (w.heap.size + 1) (ctX y) a3 (ctX y).b.length c3) ∧ Bx (Below w.heap.size w wx))
  case first =>
    refine wp_region_held_drew (S := fun _ => True) (by kernel_rfl) trivial (fun _ => ?_)
    generalize hwd : W2.drew = wk at *
    replace HBK : Bx (Below w.heap.size w wk) := ⟨by rw [← hwd]; exact HBK.out.drew⟩
    replace HRX : Bx (RA wk w.heap.size x a0 n0 c0) := ⟨by rw [← hwd]; exact HRX.out.drewN 1⟩
    replace HRY : Bx (RA wk (w.heap.size + 1) y a1 n1 c1) := ⟨by rw [← hwd]; exact HRY.out.drewN 1⟩
    clear hwd
    refine wpAnyH_ready (rs := [0, 2]) (by decide +kernel) (by simp) ?_
    refine (AllReadyH.cons (o := { dst := some 19, op := Op.load 26 (Operand.tmp 2), type := 26, pos := "law.go:106", after := #[], guard := none }) rfl (fun K hK => ?_) (AllReadyH.cons (o := { dst := some 21, op := Op.load 26 (Operand.tmp 3), type := 26, pos := "law.go:106", after := #[], guard := none }) rfl (fun K hK => ?_) AllReadyH.nil))
    · rw [if_pos (by rfl)]
      have x0 := HRX.out.c0
      have x1 := HRX.out.c1
      have x2 := HRX.out.c2
      have x3 := HRX.out.c3
      go_simp
      clear x0 x1 x2 x3
      refine hK.out _ _ trivial (fun _ => ?_)
      clear hK K
      try simp only [Act.put, List.setIfInBounds_toArray, List.set_cons_zero, List.set_cons_succ]
      refine wpAnyH_ready (rs := [1, 2]) (by decide +kernel) (by simp) ?_
      refine (AllReadyH.cons (o := { dst := some 20, op := Op.call { callee := Callee.value (Operand.func 22), args := #[Operand.tmp 19], argTypes := #[26] }, type := 26, pos := "law.go:106", after := #[{ on := 0, ground := Ground.data }], guard := none }) rfl (fun K hK => ?_) (AllReadyH.cons (o := { dst := some 21, op := Op.load 26 (Operand.tmp 3), type := 26, pos := "law.go:106", after := #[], guard := none }) rfl (fun K hK => ?_) AllReadyH.nil))
      · go_simp
        refine (rcut_any x a0 n0 c0 _ HRX.out.b HX.out.m HX.out.t HX.out.k).mono ?_
        rintro e1 w9 ⟨a2, c2, rfl, hb9, hl9⟩
        replace HRX := Bx.mk (HRX.out.below hl9)
        replace HRY := Bx.mk (HRY.out.below hl9)
        replace HBK := Bx.mk (bstep HBK.out hl9)
        try replace HC := Bx.mk (HC.out.below hl9)
        have HA := Bx.mk hb9
        clear hb9 hl9
        obtain ⟨wk, hwk⟩ : ∃ x, x = w9 := ⟨_, rfl⟩
        subst hwk
        unfold reqV
        refine hK.out _ _ trivial (fun _ => ?_)
        clear hK K
        try simp only [Act.put, List.setIfInBounds_toArray, List.set_cons_zero, List.set_cons_succ]
        refine wpAnyH_ready (rs := [2]) (by decide +kernel) (by simp) ?_
        refine AllReadyH.cons (o := { dst := some 21, op := Op.load 26 (Operand.tmp 3), type := 26, pos := "law.go:106", after := #[], guard := none }) rfl (fun K hK => ?_) AllReadyH.nil
        rw [if_pos (by rfl)]
        have x0 := HRY.out.c0
        have x1 := HRY.out.c1
        have x2 := HRY.out.c2
        have x3 := HRY.out.c3
        go_simp
        clear x0 x1 x2 x3
        refine hK.out _ _ trivial (fun _ => ?_)
        clear hK K
        try simp only [Act.put, List.setIfInBounds_toArray, List.set_cons_zero, List.set_cons_succ]
        refine wpAnyH_ready (rs := [3]) (by decide +kernel) (by simp) ?_
        refine AllReadyH.cons (o := { dst := some 22, op := Op.call { callee := Callee.value (Operand.func 22), args := #[Operand.tmp 21], argTypes := #[26] }, type := 26, pos := "law.go:106", after := #[{ on := 2, ground := Ground.data }, { on := 1, ground := Ground.chain }], guard := none }) rfl (fun K hK => ?_) AllReadyH.nil
        go_simp
        refine (rcut_any y a1 n1 c1 _ HRY.out.b HY.out.m HY.out.t HY.out.k).mono ?_
        rintro e1 w9 ⟨a3, c3, rfl, hb9, hl9⟩
        replace HRX := Bx.mk (HRX.out.below hl9)
        replace HRY := Bx.mk (HRY.out.below hl9)
        replace HBK := Bx.mk (bstep HBK.out hl9)
        try replace HA := Bx.mk (HA.out.below hl9)
        have HC := Bx.mk hb9
        clear hb9 hl9
        obtain ⟨wk, hwk⟩ : ∃ x, x = w9 := ⟨_, rfl⟩
        subst hwk
        unfold reqV
        refine hK.out _ _ trivial (fun _ => ?_)
        clear hK K
        try simp only [Act.put, List.setIfInBounds_toArray, List.set_cons_zero, List.set_cons_succ]
        refine wpAnyH_ready (rs := [4]) (by decide +kernel) (by simp) ?_
        refine AllReadyH.cons (o := { dst := none, op := Op.store 26 (Operand.tmp 2) (Operand.tmp 20), type := 0, pos := "law.go:106", after := #[{ on := 1, ground := Ground.data }, { on := 3, ground := Ground.chain }, { on := 0, ground := Ground.phase }, { on := 1, ground := Ground.phase }, { on := 2, ground := Ground.textOnly Departure.lateStores }, { on := 3, ground := Ground.textOnly Departure.lateStoresUnsure }], guard := none }) rfl (fun K hK => ?_) AllReadyH.nil
        rw [if_pos (by rfl)]
        obtain ⟨s1, s2, s3, s4, s5⟩ := HRX.out.put HBK.out (Nat.le_refl _) HA.out (bts_ne2 HA.out HRX.out.row (req_noint _ _ _ _ _ _))
        refine wp_store_mid 26 (.tmp 2) (.tmp 20) rfl w.heap.size 0 #[.string (ctX x).m, .string (ctX x).t, .string (ctX x).k, .slice a2 (ctX x).b.length c2] rfl rfl ?htwnx13 req_info (req_one _ _ _ _ rfl) ?_
        case htwnx13 => exact s1
        replace HRY : Bx (RA (wk.setCells w.heap.size 0 #[.string (ctX x).m, .string (ctX x).t, .string (ctX x).k, .slice a2 (ctX x).b.length c2].toList) (w.heap.size + 1) y a1 n1 c1) := ⟨by rw [s4 _ (by omega)]; exact HRY.out.row, HRY.out.b.keep (fun hp p e => s4 _ (bts_ne2 HRY.out.b HRX.out.row (req_noint _ _ _ _ _ _) hp p e)) (by rw [s5]; exact Nat.le_refl _)⟩
        replace HC : Bx (Bts (wk.setCells w.heap.size 0 #[.string (ctX x).m, .string (ctX x).t, .string (ctX x).k, .slice a2 (ctX x).b.length c2].toList) a3 (ctX y).b.length c3 (ctX y).b) := ⟨HC.out.keep (fun hp p e => s4 _ (bts_ne2 HC.out HRX.out.row (req_noint _ _ _ _ _ _) hp p e)) (by rw [s5]; exact Nat.le_refl _)⟩
        replace HRX := Bx.mk s2
        replace HBK := Bx.mk s3
        clear s1 s2 s3 s4 s5 HA
        generalize wk.setCells w.heap.size 0 #[.string (ctX x).m, .string (ctX x).t, .string (ctX x).k, .slice a2 (ctX x).b.length c2].toList = wk at HRX HRY HBK HC ⊢
        simp only [Act.put]
        refine hK.out _ _ trivial (fun _ => ?_)
        clear hK K
        try simp only [Act.put, List.setIfInBounds_toArray, List.set_cons_zero, List.set_cons_succ]
        refine wpAnyH_ready (rs := [5]) (by decide +kernel) (by simp) ?_
        refine AllReadyH.cons (o := { dst := none, op := Op.store 26 (Operand.tmp 3) (Operand.tmp 22), type := 0, pos := "law.go:106", after := #[{ on := 3, ground := Ground.data }, { on := 4, ground := Ground.chain }, { on := 0, ground := Ground.phase }, { on := 1, ground := Ground.phase }, { on := 2, ground := Ground.phase }, { on := 3, ground := Ground.phase }, { on := 4, ground := Ground.phase }], guard := none }) rfl (fun K hK => ?_) AllReadyH.nil
        rw [if_pos (by rfl)]
        obtain ⟨s1, s2, s3, s4, s5⟩ := HRY.out.put HBK.out (by omega) HC.out (bts_ne2 HC.out HRY.out.row (req_noint _ _ _ _ _ _))
        refine wp_store_mid 26 (.tmp 3) (.tmp 22) rfl (w.heap.size + 1) 0 #[.string (ctX y).m, .string (ctX y).t, .string (ctX y).k, .slice a3 (ctX y).b.length c3] rfl rfl ?htwnx14 req_info (req_one _ _ _ _ rfl) ?_
        case htwnx14 => exact s1
        replace HRX : Bx (RA (wk.setCells (w.heap.size + 1) 0 #[.string (ctX y).m, .string (ctX y).t, .string (ctX y).k, .slice a3 (ctX y).b.length c3].toList) w.heap.size (ctX x) a2 (ctX x).b.length c2) := ⟨by rw [s4 _ (by omega)]; exact HRX.out.row, HRX.out.b.keep (fun hp p e => s4 _ (bts_ne2 HRX.out.b HRY.out.row (req_noint _ _ _ _ _ _) hp p e)) (by rw [s5]; exact Nat.le_refl _)⟩
        replace HRY := Bx.mk s2
        replace HBK := Bx.mk s3
        clear s1 s2 s3 s4 s5 HC
        generalize wk.setCells (w.heap.size + 1) 0 #[.string (ctX y).m, .string (ctX y).t, .string (ctX y).k, .slice a3 (ctX y).b.length c3].toList = wk at HRX HRY HBK ⊢
        simp only [Act.put]
        refine hK.out _ _ trivial (fun _ => ?_)
        clear hK K
        try simp only [Act.put, List.setIfInBounds_toArray, List.set_cons_zero, List.set_cons_succ]
        refine wpAnyH_done (by decide +kernel) ?_ _
        go_wp2_with fail
        go_meet
        exact ⟨a2, c2, a3, c3, HRX, HRY, HBK⟩
      · rw [if_pos (by rfl)]
        have x0 := HRY.out.c0
        have x1 := HRY.out.c1
        have x2 := HRY.out.c2
        have x3 := HRY.out.c3
        go_simp
        clear x0 x1 x2 x3
        refine hK.out _ _ trivial (fun _ => ?_)
        clear hK K
        try simp only [Act.put, List.setIfInBounds_toArray, List.set_cons_zero, List.set_cons_succ]
        refine wpAnyH_ready (rs := [1]) (by decide +kernel) (by simp) ?_
        refine AllReadyH.cons (o := { dst := some 20, op := Op.call { callee := Callee.value (Operand.func 22), args := #[Operand.tmp 19], argTypes := #[26] }, type := 26, pos := "law.go:106", after := #[{ on := 0, ground := Ground.data }], guard := none }) rfl (fun K hK => ?_) AllReadyH.nil
        go_simp
        refine (rcut_any x a0 n0 c0 _ HRX.out.b HX.out.m HX.out.t HX.out.k).mono ?_
        rintro e1 w9 ⟨a2, c2, rfl, hb9, hl9⟩
        replace HRX := Bx.mk (HRX.out.below hl9)
        replace HRY := Bx.mk (HRY.out.below hl9)
        replace HBK := Bx.mk (bstep HBK.out hl9)
        try replace HC := Bx.mk (HC.out.below hl9)
        have HA := Bx.mk hb9
        clear hb9 hl9
        obtain ⟨wk, hwk⟩ : ∃ x, x = w9 := ⟨_, rfl⟩
        subst hwk
        unfold reqV
        refine hK.out _ _ trivial (fun _ => ?_)
        clear hK K
        try simp only [Act.put, List.setIfInBounds_toArray, List.set_cons_zero, List.set_cons_succ]
        refine wpAnyH_ready (rs := [3]) (by decide +kernel) (by simp) ?_
        refine AllReadyH.cons (o := { dst := some 22, op := Op.call { callee := Callee.value (Operand.func 22), args := #[Operand.tmp 21], argTypes := #[26] }, type := 26, pos := "law.go:106", after := #[{ on := 2, ground := Ground.data }, { on := 1, ground := Ground.chain }], guard := none }) rfl (fun K hK => ?_) AllReadyH.nil
        go_simp
        refine (rcut_any y a1 n1 c1 _ HRY.out.b HY.out.m HY.out.t HY.out.k).mono ?_
        rintro e1 w9 ⟨a3, c3, rfl, hb9, hl9⟩
        replace HRX := Bx.mk (HRX.out.below hl9)
        replace HRY := Bx.mk (HRY.out.below hl9)
        replace HBK := Bx.mk (bstep HBK.out hl9)
        try replace HA := Bx.mk (HA.out.below hl9)
        have HC := Bx.mk hb9
        clear hb9 hl9
        obtain ⟨wk, hwk⟩ : ∃ x, x = w9 := ⟨_, rfl⟩
        subst hwk
        unfold reqV
        refine hK.out _ _ trivial (fun _ => ?_)
        clear hK K
        try simp only [Act.put, List.setIfInBounds_toArray, List.set_cons_zero, List.set_cons_succ]
        refine wpAnyH_ready (rs := [4]) (by decide +kernel) (by simp) ?_
        refine AllReadyH.cons (o := { dst := none, op := Op.store 26 (Operand.tmp 2) (Operand.tmp 20), type := 0, pos := "law.go:106", after := #[{ on := 1, ground := Ground.data }, { on := 3, ground := Ground.chain }, { on := 0, ground := Ground.phase }, { on := 1, ground := Ground.phase }, { on := 2, ground := Ground.textOnly Departure.lateStores }, { on := 3, ground := Ground.textOnly Departure.lateStoresUnsure }], guard := none }) rfl (fun K hK => ?_) AllReadyH.nil
        rw [if_pos (by rfl)]
        obtain ⟨s1, s2, s3, s4, s5⟩ := HRX.out.put HBK.out (Nat.le_refl _) HA.out (bts_ne2 HA.out HRX.out.row (req_noint _ _ _ _ _ _))
        refine wp_store_mid 26 (.tmp 2) (.tmp 20) rfl w.heap.size 0 #[.string (ctX x).m, .string (ctX x).t, .string (ctX x).k, .slice a2 (ctX x).b.length c2] rfl rfl ?htwnx16 req_info (req_one _ _ _ _ rfl) ?_
        case htwnx16 => exact s1
        replace HRY : Bx (RA (wk.setCells w.heap.size 0 #[.string (ctX x).m, .string (ctX x).t, .string (ctX x).k, .slice a2 (ctX x).b.length c2].toList) (w.heap.size + 1) y a1 n1 c1) := ⟨by rw [s4 _ (by omega)]; exact HRY.out.row, HRY.out.b.keep (fun hp p e => s4 _ (bts_ne2 HRY.out.b HRX.out.row (req_noint _ _ _ _ _ _) hp p e)) (by rw [s5]; exact Nat.le_refl _)⟩
        replace HC : Bx (Bts (wk.setCells w.heap.size 0 #[.string (ctX x).m, .string (ctX x).t, .string (ctX x).k, .slice a2 (ctX x).b.length c2].toList) a3 (ctX y).b.length c3 (ctX y).b) := ⟨HC.out.keep (fun hp p e => s4 _ (bts_ne2 HC.out HRX.out.row (req_noint _ _ _ _ _ _) hp p e)) (by rw [s5]; exact Nat.le_refl _)⟩
        replace HRX := Bx.mk s2
        replace HBK := Bx.mk s3
        clear s1 s2 s3 s4 s5 HA
        generalize wk.setCells w.heap.size 0 #[.string (ctX x).m, .string (ctX x).t, .string (ctX x).k, .slice a2 (ctX x).b.length c2].toList = wk at HRX HRY HBK HC ⊢
        simp only [Act.put]
        refine hK.out _ _ trivial (fun _ => ?_)
        clear hK K
        try simp only [Act.put, List.setIfInBounds_toArray, List.set_cons_zero, List.set_cons_succ]
        refine wpAnyH_ready (rs := [5]) (by decide +kernel) (by simp) ?_
        refine AllReadyH.cons (o := { dst := none, op := Op.store 26 (Operand.tmp 3) (Operand.tmp 22), type := 0, pos := "law.go:106", after := #[{ on := 3, ground := Ground.data }, { on := 4, ground := Ground.chain }, { on := 0, ground := Ground.phase }, { on := 1, ground := Ground.phase }, { on := 2, ground := Ground.phase }, { on := 3, ground := Ground.phase }, { on := 4, ground := Ground.phase }], guard := none }) rfl (fun K hK => ?_) AllReadyH.nil
        rw [if_pos (by rfl)]
        obtain ⟨s1, s2, s3, s4, s5⟩ := HRY.out.put HBK.out (by omega) HC.out (bts_ne2 HC.out HRY.out.row (req_noint _ _ _ _ _ _))
        refine wp_store_mid 26 (.tmp 3) (.tmp 22) rfl (w.heap.size + 1) 0 #[.string (ctX y).m, .string (ctX y).t, .string (ctX y).k, .slice a3 (ctX y).b.length c3] rfl rfl ?htwnx17 req_info (req_one _ _ _ _ rfl) ?_
        case htwnx17 => exact s1
        replace HRX : Bx (RA (wk.setCells (w.heap.size + 1) 0 #[.string (ctX y).m, .string (ctX y).t, .string (ctX y).k, .slice a3 (ctX y).b.length c3].toList) w.heap.size (ctX x) a2 (ctX x).b.length c2) := ⟨by rw [s4 _ (by omega)]; exact HRX.out.row, HRX.out.b.keep (fun hp p e => s4 _ (bts_ne2 HRX.out.b HRY.out.row (req_noint _ _ _ _ _ _) hp p e)) (by rw [s5]; exact Nat.le_refl _)⟩
        replace HRY := Bx.mk s2
        replace HBK := Bx.mk s3
        clear s1 s2 s3 s4 s5 HC
        generalize wk.setCells (w.heap.size + 1) 0 #[.string (ctX y).m, .string (ctX y).t, .string (ctX y).k, .slice a3 (ctX y).b.length c3].toList = wk at HRX HRY HBK ⊢
        simp only [Act.put]
        refine hK.out _ _ trivial (fun _ => ?_)
        clear hK K
        try simp only [Act.put, List.setIfInBounds_toArray, List.set_cons_zero, List.set_cons_succ]
        refine wpAnyH_done (by decide +kernel) ?_ _
        go_wp2_with fail
        go_meet
        exact ⟨a2, c2, a3, c3, HRX, HRY, HBK⟩
    · rw [if_pos (by rfl)]
      have x0 := HRY.out.c0
      have x1 := HRY.out.c1
      have x2 := HRY.out.c2
      have x3 := HRY.out.c3
      go_simp
      clear x0 x1 x2 x3
      refine hK.out _ _ trivial (fun _ => ?_)
      clear hK K
      try simp only [Act.put, List.setIfInBounds_toArray, List.set_cons_zero, List.set_cons_succ]
      refine wpAnyH_ready (rs := [0]) (by decide +kernel) (by simp) ?_
      refine AllReadyH.cons (o := { dst := some 19, op := Op.load 26 (Operand.tmp 2), type := 26, pos := "law.go:106", after := #[], guard := none }) rfl (fun K hK => ?_) AllReadyH.nil
      rw [if_pos (by rfl)]
      have x0 := HRX.out.c0
      have x1 := HRX.out.c1
      have x2 := HRX.out.c2
      have x3 := HRX.out.c3
      go_simp
      clear x0 x1 x2 x3
      refine hK.out _ _ trivial (fun _ => ?_)
      clear hK K
      try simp only [Act.put, List.setIfInBounds_toArray, List.set_cons_zero, List.set_cons_succ]
      refine wpAnyH_ready (rs := [1]) (by decide +kernel) (by simp) ?_
      refine AllReadyH.cons (o := { dst := some 20, op := Op.call { callee := Callee.value (Operand.func 22), args := #[Operand.tmp 19], argTypes := #[26] }, type := 26, pos := "law.go:106", after := #[{ on := 0, ground := Ground.data }], guard := none }) rfl (fun K hK => ?_) AllReadyH.nil
      go_simp
      refine (rcut_any x a0 n0 c0 _ HRX.out.b HX.out.m HX.out.t HX.out.k).mono ?_
      rintro e1 w9 ⟨a2, c2, rfl, hb9, hl9⟩
      replace HRX := Bx.mk (HRX.out.below hl9)
      replace HRY := Bx.mk (HRY.out.below hl9)
      replace HBK := Bx.mk (bstep HBK.out hl9)
      try replace HC := Bx.mk (HC.out.below hl9)
      have HA := Bx.mk hb9
      clear hb9 hl9
      obtain ⟨wk, hwk⟩ : ∃ x, x = w9 := ⟨_, rfl⟩
      subst hwk
      unfold reqV
      refine hK.out _ _ trivial (fun _ => ?_)
      clear hK K
      try simp only [Act.put, List.setIfInBounds_toArray, List.set_cons_zero, List.set_cons_succ]
      refine wpAnyH_ready (rs := [3]) (by decide +kernel) (by simp) ?_
      refine AllReadyH.cons (o := { dst := some 22, op := Op.call { callee := Callee.value (Operand.func 22), args := #[Operand.tmp 21], argTypes := #[26] }, type := 26, pos := "law.go:106", after := #[{ on := 2, ground := Ground.data }, { on := 1, ground := Ground.chain }], guard := none }) rfl (fun K hK => ?_) AllReadyH.nil
      go_simp
      refine (rcut_any y a1 n1 c1 _ HRY.out.b HY.out.m HY.out.t HY.out.k).mono ?_
      rintro e1 w9 ⟨a3, c3, rfl, hb9, hl9⟩
      replace HRX := Bx.mk (HRX.out.below hl9)
      replace HRY := Bx.mk (HRY.out.below hl9)
      replace HBK := Bx.mk (bstep HBK.out hl9)
      try replace HA := Bx.mk (HA.out.below hl9)
      have HC := Bx.mk hb9
      clear hb9 hl9
      obtain ⟨wk, hwk⟩ : ∃ x, x = w9 := ⟨_, rfl⟩
      subst hwk
      unfold reqV
      refine hK.out _ _ trivial (fun _ => ?_)
      clear hK K
      try simp only [Act.put, List.setIfInBounds_toArray, List.set_cons_zero, List.set_cons_succ]
      refine wpAnyH_ready (rs := [4]) (by decide +kernel) (by simp) ?_
      refine AllReadyH.cons (o := { dst := none, op := Op.store 26 (Operand.tmp 2) (Operand.tmp 20), type := 0, pos := "law.go:106", after := #[{ on := 1, ground := Ground.data }, { on := 3, ground := Ground.chain }, { on := 0, ground := Ground.phase }, { on := 1, ground := Ground.phase }, { on := 2, ground := Ground.textOnly Departure.lateStores }, { on := 3, ground := Ground.textOnly Departure.lateStoresUnsure }], guard := none }) rfl (fun K hK => ?_) AllReadyH.nil
      rw [if_pos (by rfl)]
      obtain ⟨s1, s2, s3, s4, s5⟩ := HRX.out.put HBK.out (Nat.le_refl _) HA.out (bts_ne2 HA.out HRX.out.row (req_noint _ _ _ _ _ _))
      refine wp_store_mid 26 (.tmp 2) (.tmp 20) rfl w.heap.size 0 #[.string (ctX x).m, .string (ctX x).t, .string (ctX x).k, .slice a2 (ctX x).b.length c2] rfl rfl ?htwnx110 req_info (req_one _ _ _ _ rfl) ?_
      case htwnx110 => exact s1
      replace HRY : Bx (RA (wk.setCells w.heap.size 0 #[.string (ctX x).m, .string (ctX x).t, .string (ctX x).k, .slice a2 (ctX x).b.length c2].toList) (w.heap.size + 1) y a1 n1 c1) := ⟨by rw [s4 _ (by omega)]; exact HRY.out.row, HRY.out.b.keep (fun hp p e => s4 _ (bts_ne2 HRY.out.b HRX.out.row (req_noint _ _ _ _ _ _) hp p e)) (by rw [s5]; exact Nat.le_refl _)⟩
      replace HC : Bx (Bts (wk.setCells w.heap.size 0 #[.string (ctX x).m, .string (ctX x).t, .string (ctX x).k, .slice a2 (ctX x).b.length c2].toList) a3 (ctX y).b.length c3 (ctX y).b) := ⟨HC.out.keep (fun hp p e => s4 _ (bts_ne2 HC.out HRX.out.row (req_noint _ _ _ _ _ _) hp p e)) (by rw [s5]; exact Nat.le_refl _)⟩
      replace HRX := Bx.mk s2
      replace HBK := Bx.mk s3
      clear s1 s2 s3 s4 s5 HA
      generalize wk.setCells w.heap.size 0 #[.string (ctX x).m, .string (ctX x).t, .string (ctX x).k, .slice a2 (ctX x).b.length c2].toList = wk at HRX HRY HBK HC ⊢
      simp only [Act.put]
      refine hK.out _ _ trivial (fun _ => ?_)
      clear hK K
      try simp only [Act.put, List.setIfInBounds_toArray, List.set_cons_zero, List.set_cons_succ]
      refine wpAnyH_ready (rs := [5]) (by decide +kernel) (by simp) ?_
      refine AllReadyH.cons (o := { dst := none, op := Op.store 26 (Operand.tmp 3) (Operand.tmp 22), type := 0, pos := "law.go:106", after := #[{ on := 3, ground := Ground.data }, { on := 4, ground := Ground.chain }, { on := 0, ground := Ground.phase }, { on := 1, ground := Ground.phase }, { on := 2, ground := Ground.phase }, { on := 3, ground := Ground.phase }, { on := 4, ground := Ground.phase }], guard := none }) rfl (fun K hK => ?_) AllReadyH.nil
      rw [if_pos (by rfl)]
      obtain ⟨s1, s2, s3, s4, s5⟩ := HRY.out.put HBK.out (by omega) HC.out (bts_ne2 HC.out HRY.out.row (req_noint _ _ _ _ _ _))
      refine wp_store_mid 26 (.tmp 3) (.tmp 22) rfl (w.heap.size + 1) 0 #[.string (ctX y).m, .string (ctX y).t, .string (ctX y).k, .slice a3 (ctX y).b.length c3] rfl rfl ?htwnx111 req_info (req_one _ _ _ _ rfl) ?_
      case htwnx111 => exact s1
      replace HRX : Bx (RA (wk.setCells (w.heap.size + 1) 0 #[.string (ctX y).m, .string (ctX y).t, .string (ctX y).k, .slice a3 (ctX y).b.length c3].toList) w.heap.size (ctX x) a2 (ctX x).b.length c2) := ⟨by rw [s4 _ (by omega)]; exact HRX.out.row, HRX.out.b.keep (fun hp p e => s4 _ (bts_ne2 HRX.out.b HRY.out.row (req_noint _ _ _ _ _ _) hp p e)) (by rw [s5]; exact Nat.le_refl _)⟩
      replace HRY := Bx.mk s2
      replace HBK := Bx.mk s3
      clear s1 s2 s3 s4 s5 HC
      generalize wk.setCells (w.heap.size + 1) 0 #[.string (ctX y).m, .string (ctX y).t, .string (ctX y).k, .slice a3 (ctX y).b.length c3].toList = wk at HRX HRY HBK ⊢
      simp only [Act.put]
      refine hK.out _ _ trivial (fun _ => ?_)
      clear hK K
      try simp only [Act.put, List.setIfInBounds_toArray, List.set_cons_zero, List.set_cons_succ]
      refine wpAnyH_done (by decide +kernel) ?_ _
      go_wp2_with fail
      go_meet
      exact ⟨a2, c2, a3, c3, HRX, HRY, HBK⟩
  case rest =>
    obtain ⟨a2, c2, a3, c3, HRX3, HRY3, HB3⟩ := hcut
    clear HRX HRY HBK
    have HSP := Bx.mk (ctX_sml x)
    have HSQ := Bx.mk (ctX_sml y)
    generalize ctX x = p at *
    generalize ctX y = q at *
    go_wp2_with (refine wpList_load_row rfl 26 (.tmp 2) rfl w.heap.size rfl 26 #[.string p.m, .string p.t, .string p.k, .slice a2 p.b.length c2] (0, 0) _ HRX3.out.row Tryz.underlying26 rfl req_info ?_)
    refine (wprint_any p a2 p.b.length c2 _ HRX3.out.b HSP.out (HEV.out.up HB3.out)).mono ?_
    rintro e w4 ⟨hb4, hor⟩
    have HB4 := Bx.mk (bstep HB3.out hb4)
    have HRX4 := Bx.mk (HRX3.out.below hb4)
    have HRY4 := Bx.mk (HRY3.out.below hb4)
    clear hb4 HRX3 HRY3 HB3
    rcases hor with ⟨hpb, b4, c4, rfl, hbt4⟩ | ⟨hpb, rfl⟩
    · have HPB := Bx.mk hpb
      have HBT4 := Bx.mk hbt4
      clear hpb hbt4
      go_wp2_with (refine wpList_load_row rfl 26 (.tmp 3) rfl (w.heap.size + 1) rfl 26 #[.string q.m, .string q.t, .string q.k, .slice a3 q.b.length c3] (0, 0) _ HRY4.out.row Tryz.underlying26 rfl req_info ?_)
      refine (wprint_any q a3 q.b.length c3 _ HRY4.out.b HSQ.out (HEV.out.up HB4.out)).mono ?_
      rintro e w5 ⟨hb5, hor⟩
      have HB5 := Bx.mk (bstep HB4.out hb5)
      have HRX5 := Bx.mk (HRX4.out.below hb5)
      have HRY5 := Bx.mk (HRY4.out.below hb5)
      rcases hor with ⟨hqb, b5, c5, rfl, hbt5⟩ | ⟨hqb, rfl⟩
      · have HBP5 := Bx.mk (HBT4.out.below hb5)
        have HBQ5 := Bx.mk hbt5
        have HPP : Bx (runQ wp0 ws0 (wrL p) 0 = (p, (wrL p).length, 0)) := ⟨(prB_iff p).1 HPB.out⟩
        have HQQ : Bx (runQ wp0 ws0 (wrL q) 0 = (q, (wrL q).length, 0)) := ⟨(prB_iff q).1 hqb⟩
        have HLP : Bx ((wrL p).length < 10000 ∧ 1 ≤ (wrL p).length) := ⟨by unfold wrL; rw [List.length_append, strL_length]; have := (wrB_size HSP.out); have := HSP.out.b; omega⟩
        have HLQ : Bx ((wrL q).length < 10000 ∧ 1 ≤ (wrL q).length) := ⟨by unfold wrL; rw [List.length_append, strL_length]; have := (wrB_size HSQ.out); have := HSQ.out.b; omega⟩
        clear hb5 hbt5 hqb HBT4 HPB HRX4 HRY4
        generalize wrL p = P at *
        generalize wrL q = Q at *
        obtain ⟨NP, hNP⟩ : ∃ NP, P.length = NP := ⟨_, rfl⟩
        obtain ⟨NQ, hNQ⟩ : ∃ NQ, Q.length = NQ := ⟨_, rfl⟩
        have HNP := Bx.mk hNP
        have HNQ := Bx.mk hNQ
        rw [hNP] at HBP5 ⊢
        rw [hNQ] at HBQ5 ⊢
        have hp9 : NP < 10000 := by have := HLP.out.1; omega
        have hp1 : 1 ≤ NP := by have := HLP.out.2; omega
        have hq9 : NQ < 10000 := by have := HLQ.out.1; omega
        have hq1 : 1 ≤ NQ := by have := HLQ.out.2; omega
        clear hNP hNQ
        go_wp2_with fail
        refine (wnew_any _).mono ?_
        rintro e w6 ⟨rfl, hw6, hb6⟩
        have HWA6 := Bx.mk hw6
        have HL6 := Bx.mk hb6
        have HBP6 := Bx.mk (HBP5.out.below hb6)
        have HBQ6 := Bx.mk (HBQ5.out.below hb6)
        have HGL6 : Bx (w5.heap.size < w6.heap.size) := ⟨(wat_own hw6).2 _ rfl⟩
        obtain ⟨g, hg⟩ : ∃ g, g = w5.heap.size := ⟨_, rfl⟩
        have HG := Bx.mk hg
        rw [← hg] at HWA6 ⊢
        clear hw6 hb6 hg
        go_wp2_with fail
        refine (copy_any _ NP c4 P _ HBP6.out (by omega)).mono ?_
        rintro e w7 ⟨v7, rfl, hown7, hb7⟩
        have HOWN7 := Bx.mk hown7
        have HBQ7 := Bx.mk (HBQ6.out.below hb7)
        have HL7 := Bx.mk hb7
        have HBY : Bx (Byt (P ++ Q)) := ⟨HBP5.out.byt.append HBQ5.out.byt⟩
        have HS7 := Bx.mk hb7.size
        clear hown7 hb7
        go_wp2_with (at_builtin; refine wpList_append_bts rfl (.tmp 50) (.tmp 51) rfl w6.heap.size NP _ P rfl HOWN7.out (some ⟨b5, 0, none⟩) NQ c5 Q rfl HBQ7.out (by omega) HS7.out ?_; intro v8 w8 hown8 hb8 hgr8; have hlp : (P ++ Q).length = NP + NQ := (by rw [List.length_append, HNP.out, HNQ.out]); have HGE8 : Bx (∀ j, v8.ownBlock = some j → w6.heap.size ≤ j) := ⟨own_ge9 hown8⟩; rw [← hlp] at hown8; obtain ⟨al, cl, hv8, hm8⟩ := Bts.of_owns hown8 HBY.out; rw [hlp] at hv8 hm8; subst hv8; have HM8 := Bx.mk hm8; have HK8 : Bx (∀ k, k < w6.heap.size → w8.heap[k]? = w7.heap[k]?) := ⟨fun k hk => hb8.block k hk⟩; have HB8 : Bx (Below w6.heap.size w6 w8) := ⟨HL7.out.trans hb8⟩; clear hown8 hb8 hgr8 hm8 hlp)
        have HNL : Bx (NL w5 w8 g (fun k => k = g) al (NP + NQ) cl (P ++ Q) (.ok ws0)) := ⟨wat_keep (fun k hk => HB8.out.block k (by have h1 := HG.out; have h2 := HGL6.out; omega)) HB8.out.size HWA6.out, fun k hk => by have h1 := HG.out; omega, bstep HL6.out HB8.out, HM8.out, fun hp pp e ho => by
          have h3 : (Value.slice al (NP + NQ) cl).ownBlock = some pp.block := by
            have hsp := HM8.out.spot hp
            obtain ⟨bb, off, e2, _⟩ := hsp
            rw [e] at e2; cases e2; rw [e]; rfl
          have h1 := HGE8.out _ h3
          have h2 := HG.out
          have h4 := HGL6.out
          omega⟩
        obtain ⟨N, hN⟩ : ∃ N, N = NP + NQ := ⟨_, rfl⟩
        rw [← hN] at HNL ⊢
        have HN := Bx.mk hN
        have HE5 := Bx.mk (HEV.out.up HB5.out)
        obtain ⟨ab, ao, hal0, -, -⟩ := HNL.out.bt.spot (by omega)
        subst hal0
        have hN20 : N < 20000 := by omega
        have hN2b : 2 ≤ N := by omega
        clear hN
        clear HM8 HK8 HB8 HGE8 HS7 HBY HL7 HBQ7 HOWN7 HGL6 HBQ6 HBP6 HL6 HWA6
        go_loopw [11] (fun i wr => ∃ (k : Nat) (own : Nat → Prop) (s : WS), k ≤ N ∧ i = .int .i64 k ∧ Bx (NL w5 wr g own (some ⟨ab, ao, none⟩) N cl (P ++ Q) (.ok s)) ∧ Bx (NX P Q k s)) (fun i _ => N - (intOf i).toNat)
        case atStart => exact ⟨0, _, ws0, Nat.zero_le _, rfl, HNL, ⟨NX.new HLP.out.2⟩⟩
        case round =>
          clear HNL
          obtain ⟨k, own, s, hk, rfl, HS, HX9⟩ := hrel
          by_cases hlt : k < N
          · have hkI : (k : Int) < (N : Int) := by omega
            obtain ⟨b0, off, hal0, _, hc⟩ := HS.out.bt.spot (by omega)
            cases hal0
            have hcell := hc k hlt
            have hbd := HS.out.bt.byt.getD k
            obtain ⟨h0, hid, hway⟩ := HX9.out.put HPP.out HQQ.out HLP.out.2 HLQ.out.2 (by rw [HNP.out, HNQ.out]; have := HN.out; omega)
            rw [HNP.out, HNQ.out, ← HN.out] at hway
            have hNP2 : NP < N := by have := HN.out; omega
            generalize (P ++ Q).getD k 0 = C at *
            clear hc
            go_wp2_with fail
            refine (wput_any w5.heap.size (.ok s) C _ HS.out.wat hbd (HE5.out.below HS.out.bel) HS.out.bel.size HS.out.low).mono ?_
            rintro e w9 ⟨rfl, own2, hw9, hd9⟩
            have hov := HX9.out.1
            have PS : puS wp0 (.ok s) C = .ok (wst wp0 s C).1 := by
              show (if s.over = true then _ else _) = _
              rw [if_neg (by rw [hov]; decide), if_neg (by simpa using h0)]
            have HPD : Bx (puD wp0 (.ok s) C = decide ((wst wp0 s C).1.over = true ∧ true = true)) := ⟨decide_eq_decide.2 ⟨fun h => ⟨h.2.2, rfl⟩, fun h => ⟨hov, h0, h.1⟩⟩⟩
            have PE : puE wp0 (.ok s) C = 0 := h0
            rw [PS] at hw9
            rw [PE]
            have HNL2 := Bx.mk (HS.out.step hd9 hw9)
            have HID := Bx.mk hid
            clear hw9 hd9 PS PE hcell hid h0 hov HS
            generalize (wst wp0 s C).1 = S2 at *
            rcases hway with ⟨hkP, hS2⟩ | ⟨hkN, hS2⟩ | ⟨hkP, hkN, hNX⟩
            · have f1 : ((k : Int) == (NP : Int) - 1) = true := by simp; omega
              have f2 : ((k : Int) == (N : Int) - 1) = false := by simp; omega
              have HW := Bx.mk hS2
              clear hS2 HID
              have hN2 : puD wp0 (.ok s) C = true := by rw [HPD.out, HW.out]; exact decide_eq_true ⟨rfl, rfl⟩
              rw [hN2]
              have HW2 : Bx (NL w5 w9 g own2 (some ⟨ab, ao, none⟩) N cl (P ++ Q) (.ok (.done p))) := ⟨by have h9 := HNL2.out; rw [HW.out] at h9; exact h9⟩
              have HRX9 : Bx (RA w9 w.heap.size p a2 p.b.length c2) := ⟨HRX5.out.below HW2.out.bel⟩
              have HRY9 : Bx (RA w9 (w.heap.size + 1) q a3 q.b.length c3) := ⟨HRY5.out.below HW2.out.bel⟩
              have hal := alloc_below w9 (.cells #[.string p.m, .string p.t, .string p.k, .slice a2 p.b.length c2] 26)
              have HRX10 := Bx.mk (HRX9.out.below hal)
              have HRY10 := Bx.mk (HRY9.out.below hal)
              have HRW10 := Bx.mk (RA.new (x := p) HRX9.out.b)
              have HNL10 := Bx.mk (HW2.out.below hal)
              have HX10 : Bx (w5.heap.size ≤ w9.heap.size) := ⟨HW2.out.bel.size⟩
              obtain ⟨V, hV⟩ : ∃ V, V = w9.heap.size := ⟨_, rfl⟩
              have HV := Bx.mk hV
              rw [← hV] at HRW10 HX10
              obtain ⟨W10, hW10⟩ : ∃ W10, w9.alloc (.cells #[.string p.m, .string p.t, .string p.k, .slice a2 p.b.length c2] 26) = W10 := ⟨_, rfl⟩
              rw [hW10] at HRX10 HRY10 HRW10 HNL10
              have HW10 := Bx.mk hW10
              clear hal hV hW10 hN2 HNL2 HPD HW
              go_wp2_with fail
              refine (widle_any (.ok (.done p)) _ HW2.out.wat).mono ?_
              rintro e w9b ⟨rfl, hw9b⟩
              rw [hw9b]
              clear hw9b
              rw [show idl (.ok (.done p)) = false from rfl]
              go_wp2_with (first
                | (refine wpList_load_row rfl 26 (.tmp 2) rfl w.heap.size rfl 26 #[.string p.m, .string p.t, .string p.k, .slice a2 p.b.length c2] (0, 0) _ HRX9.out.row Tryz.underlying26 rfl req_info ?_)
                | (rw [HW10.out, ← HV.out]; clear HW10))
              have HNL11 := HNL10
              have HRW11 := HRW10
              have HRX11 := HRX10
              have HRY11 := HRY10
              obtain ⟨W11, hW11⟩ : ∃ W11, W11 = W10 := ⟨_, rfl⟩
              subst hW11
              refine (wtake_any (.ok (.done p)) _ HNL11.out.wat).mono ?_
              rintro e w12 ⟨v12, own12, rfl, hw12, hy12, ho12, hx12, hd12⟩
              obtain ⟨av, cv, rfl⟩ := own_sl ho12
              have hNL12 : NL w5 w12 g own12 (some ⟨ab, ao, none⟩) N cl (P ++ Q) (.ok ws0) := HNL11.out.step hd12 hw12
              have hb12 : Bts w12 av p.b.length cv p.b := by
                obtain ⟨a9, c9, h9, hb9⟩ := Bts.of_owns ho12 hy12
                cases h9; exact hb9
              have hVn : ¬ own2 V := fun ho => by have h1 := (wat_own HW2.out.wat).2 V ho; have h2 := HV.out; omega
              have hbn : 0 < p.b.length → ∀ pp, a2 = some pp → ¬ own2 pp.block := fun hp pp e ho => by
                have h1 := HNL11.out.low _ ho
                have h2 := HRX5.out.b.lt hp e
                omega
              have hRW12 : RA w12 V p a2 p.b.length c2 := ⟨by rw [hd12.kept.block V HRW11.out.lt hVn]; exact HRW11.out.row, HRW11.out.b.keep (fun hp pp e => hd12.kept.block _ (HRW11.out.b.lt hp e) (hbn hp pp e)) hd12.kept.size⟩
              have hal := alloc_below w12 (.cells #[.string p.m, .string p.t, .string p.k, .slice av p.b.length cv] 26)
              have HNL13 := Bx.mk (hNL12.below hal)
              have HRW13 := Bx.mk (hRW12.below hal)
              have HRT13 := Bx.mk (RA.new (x := p) hb12)
              obtain ⟨W13, hW13⟩ : ∃ W13, w12.alloc (.cells #[.string p.m, .string p.t, .string p.k, .slice av p.b.length cv] 26) = W13 := ⟨_, rfl⟩
              rw [hW13] at HNL13 HRW13 HRT13
              have HW13 := Bx.mk hW13
              have CS : Hid (Calls Tryz.prog 13 #[.agg #[.string p.m, .string p.t, .string p.k, .slice av p.b.length cv], .agg #[.string p.m, .string p.t, .string p.k, .slice a2 p.b.length c2]] W13 fun e w' => e = .returned (.bool true) ∧ Below W13.heap.size W13 w') := by have h9 := rsame_any p p av a2 _ _ cv c2 W13 HRT13.out.b HRW13.out.b; rw [smW_self] at h9; exact h9
              clear hal hNL12 hRW12 hb12 hVn hbn hW13 hw12 hy12 ho12 hx12 hd12
              unfold reqV
              rw [show tkX (.ok (.done p)) = p from rfl, show tkB (.ok (.done p)) = true from rfl]
              go_upto_region 19 with (rw [HW13.out]; clear HW13)
              have x0 := HRT13.out.c0
              have x1 := HRT13.out.c1
              have x2 := HRT13.out.c2
              have x3 := HRT13.out.c3
              have y0 := HRW13.out.c0
              have y1 := HRW13.out.c1
              have y2 := HRW13.out.c2
              have y3 := HRW13.out.c3
              go_wp2_with fail
              refine CS.out.mono ?_
              rintro e w14 ⟨rfl, hb14⟩
              have HNL14 := Bx.mk (HNL13.out.below hb14)
              clear hb14 x0 x1 x2 x3 y0 y1 y2 y3
              go_wp2_with fail
              refine (widle_any (.ok ws0) _ HNL14.out.wat).mono ?_
              rintro e w14b ⟨rfl, hw14b⟩
              rw [hw14b]
              clear hw14b
              rw [show idl (.ok ws0) = true from rfl]
              go_wp2
              go_roundw
              case rel => exact ⟨k + 1, own12, ws0, by omega, by go_num, HNL14, ⟨NX.taken HLQ.out.2 (.inl (by rw [HNP.out]; exact hkP))⟩⟩
              case measure => simp [intOf]; omega
            · have f1 : ((k : Int) == (NP : Int) - 1) = false := by simp; omega
              have f2 : ((k : Int) == (N : Int) - 1) = true := by simp; omega
              have HW := Bx.mk hS2
              clear hS2 HID
              have hN2 : puD wp0 (.ok s) C = true := by rw [HPD.out, HW.out]; exact decide_eq_true ⟨rfl, rfl⟩
              rw [hN2]
              have HW2 : Bx (NL w5 w9 g own2 (some ⟨ab, ao, none⟩) N cl (P ++ Q) (.ok (.done q))) := ⟨by have h9 := HNL2.out; rw [HW.out] at h9; exact h9⟩
              have HRX9 : Bx (RA w9 w.heap.size p a2 p.b.length c2) := ⟨HRX5.out.below HW2.out.bel⟩
              have HRY9 : Bx (RA w9 (w.heap.size + 1) q a3 q.b.length c3) := ⟨HRY5.out.below HW2.out.bel⟩
              have hal := alloc_below w9 (.cells #[.string p.m, .string p.t, .string p.k, .slice a2 p.b.length c2] 26)
              have HRX10 := Bx.mk (HRX9.out.below hal)
              have HRY10 := Bx.mk (HRY9.out.below hal)
              have HRW10 := Bx.mk (RA.new (x := p) HRX9.out.b)
              have HNL10 := Bx.mk (HW2.out.below hal)
              have HX10 : Bx (w5.heap.size ≤ w9.heap.size) := ⟨HW2.out.bel.size⟩
              obtain ⟨V, hV⟩ : ∃ V, V = w9.heap.size := ⟨_, rfl⟩
              have HV := Bx.mk hV
              rw [← hV] at HRW10 HX10
              obtain ⟨W10, hW10⟩ : ∃ W10, w9.alloc (.cells #[.string p.m, .string p.t, .string p.k, .slice a2 p.b.length c2] 26) = W10 := ⟨_, rfl⟩
              rw [hW10] at HRX10 HRY10 HRW10 HNL10
              have HW10 := Bx.mk hW10
              clear hal hV hW10 hN2 HNL2 HPD HW
              go_wp2_with fail
              refine (widle_any (.ok (.done q)) _ HW2.out.wat).mono ?_
              rintro e w9b ⟨rfl, hw9b⟩
              rw [hw9b]
              clear hw9b
              rw [show idl (.ok (.done q)) = false from rfl]
              obtain ⟨s1, s2, s3, s4, s5⟩ := HRW10.out.put (x2 := q) (B := w5.heap.size) (w0 := w5) HNL10.out.bel HX10.out HRY10.out.b (bts_ne2 HRY10.out.b HRW10.out.row (req_noint _ _ _ _ _ _))
              have HNL11 : Bx (NL w5 (W10.setCells V 0 #[.string q.m, .string q.t, .string q.k, .slice a3 q.b.length c3].toList) g own2 (some ⟨ab, ao, none⟩) N cl (P ++ Q) (.ok (.done q))) := ⟨by
                have hVo : ¬ own2 V := fun ho => by have h1 := (wat_own HW2.out.wat).2 V ho; have h2 := HV.out; omega
                exact ⟨wat_keep (fun k hk => s4 k (fun e => hVo (e ▸ hk))) (by rw [s5]; exact Nat.le_refl _) HNL10.out.wat, HNL10.out.low, s3, HNL10.out.bt.keep (fun hp pp e => s4 _ (bts_ne2 HNL10.out.bt HRW10.out.row (req_noint _ _ _ _ _ _) hp pp e)) (by rw [s5]; exact Nat.le_refl _), HNL10.out.dj⟩⟩
              have HRW11 := Bx.mk s2
              have HTH11 := Bx.mk s1
              have HONE := Bx.mk (req_one q.m q.t q.k (.slice a3 q.b.length c3) rfl)
              obtain ⟨W11, hW11⟩ : ∃ W11, W10.setCells V 0 #[.string q.m, .string q.t, .string q.k, .slice a3 q.b.length c3].toList = W11 := ⟨_, rfl⟩
              rw [hW11] at HNL11 HRW11
              have HW11 := Bx.mk hW11
              clear s1 s2 s3 s4 s5 hW11
              go_wp2_with (first
                | (refine wpList_load_row rfl 26 (.tmp 2) rfl w.heap.size rfl 26 #[.string p.m, .string p.t, .string p.k, .slice a2 p.b.length c2] (0, 0) _ HRX9.out.row Tryz.underlying26 rfl req_info ?_)
                | (rw [HW10.out, ← HV.out]; have HRYB := HRY10; have HTHB := HTH11; clear HW10)
                | (refine wpList_load_row rfl 26 (.tmp 3) rfl (w.heap.size + 1) rfl 26 #[.string q.m, .string q.t, .string q.k, .slice a3 q.b.length c3] (0, 0) _ HRYB.out.row Tryz.underlying26 rfl req_info ?_)
                | (refine wpList_store_mid rfl 26 (.tmp 14) (.tmp 98) rfl V 0 #[.string q.m, .string q.t, .string q.k, .slice a3 q.b.length c3] rfl rfl HTHB.out req_info HONE.out ?_; rw [HW11.out]))
              refine (wtake_any (.ok (.done q)) _ HNL11.out.wat).mono ?_
              rintro e w12 ⟨v12, own12, rfl, hw12, hy12, ho12, hx12, hd12⟩
              obtain ⟨av, cv, rfl⟩ := own_sl ho12
              have hNL12 : NL w5 w12 g own12 (some ⟨ab, ao, none⟩) N cl (P ++ Q) (.ok ws0) := HNL11.out.step hd12 hw12
              have hb12 : Bts w12 av q.b.length cv q.b := by
                obtain ⟨a9, c9, h9, hb9⟩ := Bts.of_owns ho12 hy12
                cases h9; exact hb9
              have hVn : ¬ own2 V := fun ho => by have h1 := (wat_own HW2.out.wat).2 V ho; have h2 := HV.out; omega
              have hbn : 0 < q.b.length → ∀ pp, a3 = some pp → ¬ own2 pp.block := fun hp pp e ho => by
                have h1 := HNL11.out.low _ ho
                have h2 := HRY5.out.b.lt hp e
                omega
              have hRW12 : RA w12 V q a3 q.b.length c3 := ⟨by rw [hd12.kept.block V HRW11.out.lt hVn]; exact HRW11.out.row, HRW11.out.b.keep (fun hp pp e => hd12.kept.block _ (HRW11.out.b.lt hp e) (hbn hp pp e)) hd12.kept.size⟩
              have hal := alloc_below w12 (.cells #[.string q.m, .string q.t, .string q.k, .slice av q.b.length cv] 26)
              have HNL13 := Bx.mk (hNL12.below hal)
              have HRW13 := Bx.mk (hRW12.below hal)
              have HRT13 := Bx.mk (RA.new (x := q) hb12)
              obtain ⟨W13, hW13⟩ : ∃ W13, w12.alloc (.cells #[.string q.m, .string q.t, .string q.k, .slice av q.b.length cv] 26) = W13 := ⟨_, rfl⟩
              rw [hW13] at HNL13 HRW13 HRT13
              have HW13 := Bx.mk hW13
              have CS : Hid (Calls Tryz.prog 13 #[.agg #[.string q.m, .string q.t, .string q.k, .slice av q.b.length cv], .agg #[.string q.m, .string q.t, .string q.k, .slice a3 q.b.length c3]] W13 fun e w' => e = .returned (.bool true) ∧ Below W13.heap.size W13 w') := by have h9 := rsame_any q q av a3 _ _ cv c3 W13 HRT13.out.b HRW13.out.b; rw [smW_self] at h9; exact h9
              clear hal hNL12 hRW12 hb12 hVn hbn hW13 hw12 hy12 ho12 hx12 hd12
              unfold reqV
              rw [show tkX (.ok (.done q)) = q from rfl, show tkB (.ok (.done q)) = true from rfl]
              go_upto_region 19 with (rw [HW13.out]; clear HW13)
              have x0 := HRT13.out.c0
              have x1 := HRT13.out.c1
              have x2 := HRT13.out.c2
              have x3 := HRT13.out.c3
              have y0 := HRW13.out.c0
              have y1 := HRW13.out.c1
              have y2 := HRW13.out.c2
              have y3 := HRW13.out.c3
              go_wp2_with fail
              refine CS.out.mono ?_
              rintro e w14 ⟨rfl, hb14⟩
              have HNL14 := Bx.mk (HNL13.out.below hb14)
              clear hb14 x0 x1 x2 x3 y0 y1 y2 y3
              go_wp2_with fail
              refine (widle_any (.ok ws0) _ HNL14.out.wat).mono ?_
              rintro e w14b ⟨rfl, hw14b⟩
              rw [hw14b]
              clear hw14b
              rw [show idl (.ok ws0) = true from rfl]
              go_wp2
              go_roundw
              case rel => exact ⟨k + 1, own12, ws0, by omega, by go_num, HNL14, ⟨NX.taken HLQ.out.2 (.inr (by rw [HNP.out, HNQ.out, ← HN.out]; exact hkN))⟩⟩
              case measure => simp [intOf]; omega
            · have f1 : ((k : Int) == (NP : Int) - 1) = false := by simp; omega
              have f2 : ((k : Int) == (N : Int) - 1) = false := by simp; omega
              have hN2 : puD wp0 (.ok s) C = false := by rw [HPD.out, hNX.1]; rfl
              have HNX := Bx.mk hNX
              rw [hN2]
              clear hN2 hNX HPD
              go_wp2_with fail
              refine (widle_any (.ok S2) _ HNL2.out.wat).mono ?_
              rintro e w9b ⟨rfl, hw9b⟩
              rw [hw9b, HID.out]
              clear hw9b
              go_wp2
              go_roundw
              case rel => exact ⟨k + 1, own2, S2, by omega, by go_num, HNL2, HNX⟩
              case measure => simp [intOf]; omega
          · have hge : ¬ (k : Int) < (N : Int) := by omega
            obtain rfl : s = ws0 := HX9.out.last (by rw [HNP.out, HNQ.out]; have := HN.out; omega)
            go_wp2_with fail
            refine (wtake_any (.ok ws0) _ HS.out.wat).mono ?_
            rintro e w9 ⟨v9, own9, rfl, hw9, hy9, ho9, hx9, hd9⟩
            obtain ⟨av, cv, rfl⟩ := own_sl ho9
            have hB9 : Below w.heap.size w w9 := (bstep HB5.out HS.out.bel).trans (hd9.kept.low (fun j hj => by have h1 := HS.out.low j hj; have h2 := HB5.out.size; omega) (by have h1 := HB5.out.size; have h2 := HS.out.bel.size; omega))
            have hal := alloc_below w9 (.cells #[.string wx0.m, .string wx0.t, .string wx0.k, .slice av 0 cv] 26)
            have HB10 := Bx.mk (bstep hB9 hal)
            obtain ⟨W10, hW10⟩ : ∃ W10, w9.alloc (.cells #[.string wx0.m, .string wx0.t, .string wx0.k, .slice av 0 cv] 26) = W10 := ⟨_, rfl⟩
            rw [hW10] at HB10
            have HW10 := Bx.mk hW10
            clear hw9 hy9 ho9 hx9 hd9 hB9 hal hW10
            rw [show tkX (.ok ws0) = wx0 from rfl, show tkB (.ok ws0) = false from rfl]
            unfold reqV
            rw [show wx0.b.length = 0 from rfl]
            go_wp2_with (rw [HW10.out]; clear HW10)
            refine (wlives_any _ (HEV.out.up HB10.out)).mono ?_
            rintro e w11 ⟨rfl, hb11⟩
            have HFIN := Bx.mk (bstep HB10.out hb11)
            clear hb11
            go_wp2
            go_ret
            exact ⟨rfl, HFIN.out⟩
      · clear hb5 hqb
        go_wp2_with fail
        refine (wnew_any _).mono ?_
        rintro e w6 ⟨rfl, hw6, hb6⟩
        have HB6 := Bx.mk (bstep HB5.out hb6)
        clear hw6 hb6
        go_wp2_with fail
        refine (wlives_any _ (HEV.out.up HB6.out)).mono ?_
        rintro e w7 ⟨rfl, hb7⟩
        have HFIN := Bx.mk (bstep HB6.out hb7)
        clear hb7
        go_wp2
        go_ret
        exact ⟨rfl, HFIN.out⟩
    · clear hpb
      go_wp2_with (refine wpList_load_row rfl 26 (.tmp 3) rfl (w.heap.size + 1) rfl 26 #[.string q.m, .string q.t, .string q.k, .slice a3 q.b.length c3] (0, 0) _ HRY4.out.row Tryz.underlying26 rfl req_info ?_)
      refine (wprint_any q a3 q.b.length c3 _ HRY4.out.b HSQ.out (HEV.out.up HB4.out)).mono ?_
      rintro e w5 ⟨hb5, hor⟩
      have HB5 := Bx.mk (bstep HB4.out hb5)
      have HRX5 := Bx.mk (HRX4.out.below hb5)
      have HRY5 := Bx.mk (HRY4.out.below hb5)
      clear hb5 HRX5 HRY5
      rcases hor with ⟨hqb, b5, c5, rfl, hbt5⟩ | ⟨hqb, rfl⟩
      · clear hqb hbt5
        go_wp2_with fail
        refine (wnew_any _).mono ?_
        rintro e w6 ⟨rfl, hw6, hb6⟩
        have HB6 := Bx.mk (bstep HB5.out hb6)
        clear hw6 hb6
        go_wp2_with fail
        refine (wlives_any _ (HEV.out.up HB6.out)).mono ?_
        rintro e w7 ⟨rfl, hb7⟩
        have HFIN := Bx.mk (bstep HB6.out hb7)
        clear hb7
        go_wp2
        go_ret
        exact ⟨rfl, HFIN.out⟩
      · clear hqb
        go_wp2_with fail
        refine (wnew_any _).mono ?_
        rintro e w6 ⟨rfl, hw6, hb6⟩
        have HB6 := Bx.mk (bstep HB5.out hb6)
        clear hw6 hb6
        go_wp2_with fail
        refine (wlives_any _ (HEV.out.up HB6.out)).mono ?_
        rintro e w7 ⟨rfl, hb7⟩
        have HFIN := Bx.mk (bstep HB6.out hb7)
        clear hb7
        go_wp2
        go_ret
        exact ⟨rfl, HFIN.out⟩

set_option maxRecDepth 100000 in
/-- what the walk gives, for every argument and every world that holds the table -/
theorem contract (H : Type) (enc : TypeId × Value → H) (W : World) (base : Nat) (args : Array Value) (ds gs : List (DataW H)) (before : List MemPlace)
    (hval0 : ∀ (j : Nat) t v, Tryz.f8.params[j]? = some t → args[j]? = some v → Value.okWide Tryz.prog W .any base t v)
    (hW : DataW.Whole enc Tryz.prog Tryz.f8.params.toList Rows.wireNextSpec.vars false W args.toList ds gs before) (hL : laidMetH Tryz.prog Rows.wireNextRow.laid W) (hsh : W.ShapedOpen Tryz.prog) :
    Calls Tryz.prog 8 args W fun e W' => ∃ v, e = .returned v ∧ Rows.wireNextSpec.post enc Tryz.prog Tryz.f8 false true false false W args v W' := by
  have hval : ∀ (j : Nat) t v, Tryz.f8.params[j]? = some t → args[j]? = some v → Value.okWide Tryz.prog W .any base t v := hval0
  have hW' := hW
  obtain ⟨p, q, hA0, hV, rfl, hfz, hnd⟩ := hW
  have hA : DataW.TrodAll enc Tryz.prog W 0 (fun _ => true) true Tryz.f8.params.toList args.toList ds p := hA0
  rw [Tryz.params8] at hA hval
  obtain ⟨v0, vs0, d0, ds0, p0, q0, hargs, rfl, rfl, h0, r0⟩ := trodAll_cons hA
  obtain ⟨v1, vs1, d1, ds1, p1, q1, rfl, rfl, rfl, h1, r1⟩ := trodAll_cons r0
  obtain ⟨rfl, rfl, rfl⟩ := trodAll_nil r1
  obtain rfl : args = #[v0, v1] := by cases args; simp_all
  obtain ⟨rfl, rfl⟩ := trodVars_none hV
  have k0 := h0
  have lt0 : ∀ x ∈ p0, x.block < W.heap.size := by obtain ⟨m, hm⟩ := k0; exact DataW.trod_lt m _ _ _ hm
  have k1 := h1
  have lt1 : ∀ x ∈ p1, x.block < W.heap.size := by obtain ⟨m, hm⟩ := k1; exact DataW.trod_lt m _ _ _ hm
  obtain ⟨x, a0, n0, c0, rfl, hx⟩ := open_req (hval 0 26 v0 rfl rfl) h0
  obtain ⟨y, a1, n1, c1, rfl, hy⟩ := open_req (hval 1 26 v1 rfl rfl) h1
  clear hA0 hval0
  refine (walk x a0 n0 c0 y a1 n1 c1 W hx hy hL hsh).mono fun e W' ⟨he, bel⟩ => ?_
  subst he
  exact ⟨_, rfl, _, _, _, [], _, [], hW', trodAll_mk1 (shut_bool Tryz.underlying4 _), (trodAll_cons_mk (Below.trod laidOut (by kernel_rfl) (of_decide_eq_true (by kernel_rfl)) k0 bel lt0) (trodAll_cons_mk (Below.trod laidOut (by kernel_rfl) (of_decide_eq_true (by kernel_rfl)) k1 bel lt1) trodAll_mk0)), rfl, bel.frame _, fun h => by cases h⟩

set_option maxRecDepth 100000 in
theorem laid_met (os : Os) : laidMet Tryz.prog Rows.wireNextRow.laid ((World.laidAll Tryz.prog os Rows.wireNextRow.laid).forCall (fun _ _ => 0) ⟨#[], #[.agg #[.string ⟨#[]⟩, .string ⟨#[]⟩, .string ⟨#[]⟩, .slice none 0 0], .agg #[.string ⟨#[]⟩, .string ⟨#[]⟩, .string ⟨#[]⟩, .slice none 0 0]], []⟩).memory :=
  laidMet_laidAll _ (by kernel_rfl) (by kernel_rfl)
set_option maxRecDepth 100000 in
theorem reads (os : Os) {H : Type} (enc : TypeId × Value → H) : ∃ places, DataW.whole enc Tryz.prog ((World.laidAll Tryz.prog os Rows.wireNextRow.laid).forCall (fun _ _ => 0) ⟨#[], #[.agg #[.string ⟨#[]⟩, .string ⟨#[]⟩, .string ⟨#[]⟩, .slice none 0 0], .agg #[.string ⟨#[]⟩, .string ⟨#[]⟩, .string ⟨#[]⟩, .slice none 0 0]], []⟩).memory Tryz.f8.params.toList Rows.wireNextSpec.vars false (#[.agg #[.string ⟨#[]⟩, .string ⟨#[]⟩, .string ⟨#[]⟩, .slice none 0 0], .agg #[.string ⟨#[]⟩, .string ⟨#[]⟩, .string ⟨#[]⟩, .slice none 0 0]] : Array Value).toList 8 = some ([.agg [.lit (.string []), .lit (.string []), .lit (.string []), .nil], .agg [.lit (.string []), .lit (.string []), .lit (.string []), .nil]], [], places) :=
  ⟨[], by kernel_rfl⟩
set_option maxRecDepth 100000 in
theorem lifted (os : Os) (started : os.Started) (H : Type) (enc : TypeId × Value → H) (F : Stop.Interp) :
    ReturnsInHanded {} Tryz.checked os 8 .any ((OpenSpec.ofChange Rows.wireNextSpec).preRow enc Tryz.prog Tryz.f8 Rows.wireNextRow.domain false Rows.wireNextRow.laid) (((OpenSpec.ofChange Rows.wireNextSpec).at F).post enc Tryz.prog Tryz.f8 false true false false) := by
  obtain ⟨places, hx⟩ := reads os enc
  refine returnsInHanded_of_row (C := Tryz.checked) (s := OpenSpec.ofChange Rows.wireNextSpec) own started (by kernel_rfl) Tryz.func8
    (witness_row_zip (enc := enc) (C := Tryz.checked) false (World.laidAll Tryz.prog os Rows.wireNextRow.laid) #[.agg #[.string ⟨#[]⟩, .string ⟨#[]⟩, .string ⟨#[]⟩, .slice none 0 0], .agg #[.string ⟨#[]⟩, .string ⟨#[]⟩, .string ⟨#[]⟩, .slice none 0 0]] (World.laidAll_os _ _ _) (World.shaped_of_ZipB (by kernel_rfl) (by kernel_rfl)) (by kernel_rfl)
      (OpenSpec.preRow_of_cond 8 hx (by kernel_rfl) (fun k hk => by cases hk) (by kernel_rfl) (laid_met os))) ?_
  intro W base args ds gs before hval hW _ _ _ hL hsh _
  exact contract H enc W base args ds gs before hval hW hL hsh
theorem said : Rows.WireNextSaid :=
  OpenClaim.holds_of_cond 8 Tryz.f8 rfl rfl rfl rfl rfl rfl rfl ⟨rfl, rfl, rfl, rfl, rfl⟩ rfl rfl rfl rfl rfl (by kernel_rfl) Tryz.func8 (by kernel_rfl)
    (of_decide_eq_true (by kernel_rfl)) (by unfold Func.isWrapper; first | (rw [if_pos (by decide +kernel)]; kernel_rfl) | (rw [if_neg (by decide +kernel)]; exact ⟨rfl, rfl⟩))
    (fun os started H enc _ F => by rw [OpenClaim.pre_eq_preRow]; exact lifted os started H enc F)
theorem plain (f : FuncId) (fn : Func) (hf : Tryz.pinned.checked.prog.funcNamed "inquest/inquestlaw13.WireNext" = some f) (hfn : Tryz.pinned.checked.prog.funcs[f]? = some fn) :
    true = Tryz.pinned.checked.prog.looks [] ∧ ∀ (j : Nat) t, fn.params[j]? = some t → Tryz.pinned.checked.prog.wantsStandIn t = false := by
  obtain rfl : f = 8 := Option.some.inj ((show Tryz.prog.funcNamed "inquest/inquestlaw13.WireNext" = some 8 by kernel_rfl).symm.trans hf) |>.symm
  obtain rfl : fn = Tryz.f8 := (Option.some.inj (Tryz.func8.symm.trans hfn)).symm
  refine ⟨by kernel_rfl, fun j t ht => ?_⟩
  rw [Tryz.params8] at ht
  have hall : ([26, 26].all fun u => !Tryz.prog.wantsStandIn u) = true := by kernel_rfl
  have hm : t ∈ [26, 26] := by simpa using Array.mem_of_getElem? ht
  exact (show Tryz.prog.wantsStandIn t = false by simpa using List.all_eq_true.1 hall t hm)
/-- the tied card -/
theorem card : Rows.WireNextCardSaid :=
  Claim7.holds_tied_plain_at .later [] _ _ _ _ said (fun _ h => by cases h) (by kernel_rfl) (fun _ h => by cases h) wireNext_row_tie rfl ⟨rfl, rfl⟩ (by kernel_rfl) rfl plain (by kernel_rfl)
end Go.Proofs.YtdameoejigpnhaaGreatDoor.wireNext
namespace Go.Proofs.YtdameoejigpnhaaGreatDoor
theorem wireNext_holds : Rows.WireNextCardSaid := wireNext.card
#print axioms wireNext_holds
end Go.Proofs.YtdameoejigpnhaaGreatDoor
