/- How many bytes more are used, and changes done. Commit of a store. A store whose disk never fails: what a commit is. No walk. Open of a store. Get, Room; pairs in new memory. -/
import Derived.Test.YtipakjenggeflaaGreatDoorPkao
import Derived.Test.YtipakjenggeflaaGreatDoorPkaq
import Derived.Test.YtipakjenggeflaaGreatDoorPkal
import Derived.Test.YtipakjenggeflaaGreatDoorPkap
import Derived.Carry
namespace Go.Proofs.YtipakjenggeflaaGreatDoor
open Go.RowKit
set_option linter.unusedVariables false

set_option maxRecDepth 100000 in
theorem byK_le {M : List Pr} (h : MOk M) (k : ByteArray) : byK M k ≤ 4136 := by
  unfold byK
  cases e : gtM M k with
  | none => simp
  | some v =>
    have h1 := h.k2 _ (gtM_mem e)
    have h2 := h.v _ (gtM_mem e)
    simp only at h1 h2 ⊢
    omega
set_option maxRecDepth 100000 in
theorem mo1_bd {M : List Pr} (h : MOk M) {c : Chg} (hc : COk c) : -4136 ≤ mo1 M c ∧ mo1 M c ≤ 4136 := by
  have h1 := byK_le h c.key
  have h2 := hc.k2
  have h3 := hc.v
  unfold mo1
  split <;> omega
def moP (M : List Pr) (L : List Chg) (k : Nat) : Int := moM M (L.take k)
set_option maxRecDepth 100000 in
theorem moP_step (M : List Pr) (L : List Chg) (k : Nat) (h : k < L.length) : moP M L (k + 1) = moP M L k + mo1 M L[k] := by
  unfold moP moM
  rw [List.take_succ_eq_append_getElem h, List.map_append, List.sum_append, List.map_cons, List.map_nil, List.sum_cons, List.sum_nil, Int.add_zero]
set_option maxRecDepth 100000 in
theorem moP_all (M : List Pr) (L : List Chg) (k : Nat) (h : L.length ≤ k) : moP M L k = moM M L := by
  unfold moP
  rw [List.take_of_length_le h]
set_option maxRecDepth 100000 in
theorem moM_bd {M : List Pr} (h : MOk M) : ∀ (L : List Chg), (∀ c ∈ L, COk c) → -(4136 * (L.length : Int)) ≤ moM M L ∧ moM M L ≤ 4136 * (L.length : Int)
  | [], _ => by simp [moM]
  | c :: t, hc => by
    have h1 := mo1_bd h (hc c (by simp))
    have h2 := moM_bd h t (fun d hd => hc d (by simp [hd]))
    have h3 : moM M (c :: t) = mo1 M c + moM M t := by simp [moM]
    rw [h3, List.length_cons]
    omega
set_option maxRecDepth 100000 in
theorem moP_bd {M : List Pr} (h : MOk M) {L : List Chg} (hc : ∀ c ∈ L, COk c) (k : Nat) (hk : k ≤ 16) : -66176 ≤ moP M L k ∧ moP M L k ≤ 66176 := by
  have h1 := moM_bd h (L.take k) (fun c hc2 => hc c (List.mem_of_mem_take hc2))
  have h2 : (L.take k).length ≤ 16 := by rw [List.length_take]; omega
  unfold moP
  omega
set_option maxRecDepth 100000 in
set_option maxHeartbeats 2000000 in
theorem more_any (gs gl : Nat) (q us : Int) (own : Nat → Prop) (M : List Pr) (B : Nat → Prop) (ao : Option Addr) (len cap : Nat) (L : List Chg) (w : World) (hs : StS w gs gl q us own M) (h : CT B w ao len cap L) (hc : ∀ c ∈ L, COk c) (hlen : len ≤ 16) :
    Calls Tryz.prog 162 #[.pointer (some ⟨gs, 0, none⟩), .slice ao len cap] w fun e w' => e = .returned (.int .i64 (moM M L)) ∧ Below w.heap.size w w' := by
  obtain ⟨gm, es, clock, Z, hR⟩ := hs
  have HR : Bx (StR w gs gl gm q us own M es clock Z) := ⟨hR⟩
  have HLW : Bx (CT (fun k => k < w.heap.size) w ao len cap L) := ⟨h.low⟩
  have HC : Bx (∀ c ∈ L, COk c) := ⟨hc⟩
  have HLEN : Bx (L.length = len) := ⟨h.len_eq⟩
  have hcl := h.le_cap
  have hcm := h.cap_le
  unfold maxLen at hcm
  have HKB : Bx (∀ W, Below w.heap.size w W → StR W gs gl gm q us own M es clock Z) := ⟨fun W hW => hR.keep (fun k hk => hW.block k (hR.lt k hk)) hW.size⟩
  have h00 : moP M L 0 = 0 := by simp [moP, moM]
  clear h hc hR
  go_enter Tryz.func162, Tryz.ntmps162
  go_wp2_with fail
  go_loopw [5, 12] (fun n i wr => ∃ k : Nat, k ≤ len ∧ i = .int .i64 k ∧ n = .int .i64 (moP M L k) ∧ Below w.heap.size w wr) (fun _ i _ => len - (intOf i).toNat)
  case atStart => exact ⟨0, Nat.zero_le _, rfl, by rw [h00], Below.refl _ _⟩
  case round =>
    clear h00
    obtain ⟨k, hk, rfl, rfl, hbw⟩ := hrel
    by_cases hlt : k < len
    · have hkI : (k : Int) < (len : Int) := by omega
      have hkL : k < L.length := by rw [HLEN.out]; exact hlt
      have HST : Bx (moP M L (k + 1) = moP M L k + mo1 M L[k]) := ⟨moP_step M L k hkL⟩
      have hbd := moP_bd HR.out.mo HC.out k (by omega)
      have hck := HC.out _ (List.getElem_mem hkL)
      obtain ⟨b, off, ai, ni, ci, rfl, hbl, hblw, h1, h2, h3, hbt, hlo⟩ := (HLW.out.stay hbw).chg k hlt
      have hk40 := hck.k2
      have hv40 := hck.v
      have hvl := hbt.len_eq
      have HM1 : Bx (mo1 M L[k] = (if L[k].del = true then 0 else (L[k].key.size : Int) + (ni : Int)) - byK M L[k].key) := ⟨by rw [← hvl]; rfl⟩
      have hbk := byK_le HR.out.mo L[k].key
      have HLK : Bx (byK M L[k].key = match gtM M L[k].key with | some v => L[k].key.size + v.length | none => 0) := ⟨rfl⟩
      generalize hcc : L[k] = cc at h1 h2 hbt hk40 hv40 hvl HST HM1 hbk HLK
      obtain ⟨kk, dd, vv⟩ := cc
      simp only at h1 h2 hbt hk40 hv40 hvl HM1 hbk HLK
      have HBW : Bx (Below w.heap.size w wr) := ⟨hbw⟩
      have hba : Below wr.heap.size wr (wr.alloc (.cells #[.string kk, .bool dd, .slice ai ni ci] 167)) := (Below.refl _ _).alloc (Nat.le_refl _) _
      have HBA : Bx (Below w.heap.size w (wr.alloc (.cells #[.string kk, .bool dd, .slice ai ni ci] 167))) := ⟨bstep hbw hba⟩
      have hra : (wr.alloc (.cells #[.string kk, .bool dd, .slice ai ni ci] 167)).heap[wr.heap.size]? = some (.cells #[.string kk, .bool dd, .slice ai ni ci] 167 (0, 0)) := heap_alloc_new wr _
      obtain ⟨gc, HGC⟩ : ∃ gc, Bx (gc = wr.heap.size) := ⟨_, ⟨rfl⟩⟩
      rw [← HGC.out] at hra
      have HRA := Bx.mk hra
      generalize moP M L k = X at HST hbd
      clear hcc hbt hlo hbw hba hra hck
      go_wp2_with fail
      rw [← HGC.out]
      generalize wr.alloc (.cells #[.string kk, .bool dd, .slice ai ni ci] 167) = wa at HBA HRA ⊢
      have HRd : Bx (StR wa.drew gs gl gm q us own M es clock Z) := ⟨HKB.out _ HBA.out.drew⟩
      obtain ⟨al, nl, cl, bl, hlk, hlb, hbb⟩ := HRd.out.look kk
      have hk : wa.drew.cell? ⟨gs, 2, none⟩ = some (.map (some gm)) ∧ wa.drew.cell? ⟨gc, 0, none⟩ = some (.string kk) ∧ (Instr.lookup 127 (.map (some gm)) (.string kk) true).run Tryz.prog wa.drew = .ok (.tuple #[.slice al nl cl, .bool bl]) wa.drew := ⟨HRd.out.c2, cell_of_row wa.drew gc 0 _ _ (0, 0) HRA.out, hlk⟩
      have HD : Bx (Below w.heap.size w wa.drew ∧ wa.drew.heap[gc]? = some (.cells #[.string kk, .bool dd, .slice ai ni ci] 167 (0, 0))) := ⟨HBA.out.drew, HRA.out⟩
      have hnl := hlb.len_eq
      have HLK2 : Bx ((bl = true ∧ byK M kk = kk.size + nl) ∨ (bl = false ∧ byK M kk = 0)) := ⟨by
        rw [HLK.out, hbb, ← hnl]
        cases gtM M kk with
        | none => exact .inr ⟨rfl, rfl⟩
        | some v => exact .inl ⟨rfl, rfl⟩⟩
      clear HRd hlk hlb hbb HLK hnl HBA HRA HBW
      refine wp_region_held_drew (S := fun W => W.cell? ⟨gs, 2, none⟩ = some (.map (some gm)) ∧ W.cell? ⟨gc, 0, none⟩ = some (.string kk) ∧ (Instr.lookup 127 (.map (some gm)) (.string kk) true).run Tryz.prog W = .ok (.tuple #[.slice al nl cl, .bool bl]) W) (by kernel_rfl) hk (fun _ => ?_)
      generalize hwk : wa.drew = wk at hk HD ⊢
      clear hwk
      refine wpAnyH_take (i := 0) (oi := ⟨some 17, .move (.tmp 0), 57, "store.go:193", #[], none⟩) (v := ?vmor51) rfl (by kernel_rfl) (by kernel_rfl) (by kernel_rfl) (fun _ _ _ h => h) (Or.inl ⟨by rfl, ?ymor51⟩) hk ?rmor51
      case ymor51 => (intro w hSw; (try dsimp only at hSw); go_simp; first | done | with_reducible rfl)
      simp only [Act.put, List.setIfInBounds_toArray, List.set_cons_zero, List.set_cons_succ]
      refine wpAnyH_take (i := 1) (oi := ⟨some 18, .nilCheck (.tmp 17), 0, "store.go:193", #[⟨0, .data⟩], none⟩) (v := ?vmor52) rfl (by kernel_rfl) (by kernel_rfl) (by kernel_rfl) (fun _ _ _ h => h) (Or.inl ⟨by rfl, ?ymor52⟩) hk ?rmor52
      case ymor52 => (intro w hSw; (try dsimp only at hSw); go_simp; first | done | with_reducible rfl)
      simp only [Act.put, List.setIfInBounds_toArray, List.set_cons_zero, List.set_cons_succ]
      refine wpAnyH_take (i := 2) (oi := ⟨some 19, .fieldAddr 129 (.tmp 18) 2, 0, "store.go:193", #[⟨1, .data⟩], none⟩) (v := ?vmor53) rfl (by kernel_rfl) (by kernel_rfl) (by kernel_rfl) (fun _ _ _ h => h) (Or.inl ⟨by rfl, ?ymor53⟩) hk ?rmor53
      case ymor53 => (intro w hSw; (try dsimp only at hSw); go_simp; first | done | with_reducible rfl)
      simp only [Act.put, List.setIfInBounds_toArray, List.set_cons_zero, List.set_cons_succ]
      refine wpAnyH_take (i := 3) (oi := ⟨some 20, .load 127 (.tmp 19), 127, "store.go:193", #[⟨2, .data⟩], none⟩) (v := ?vmor54) rfl (by kernel_rfl) (by kernel_rfl) (by kernel_rfl) (fun _ _ _ h => h) (Or.inl ⟨by rfl, ?ymor54⟩) hk ?rmor54
      case ymor54 => (intro w hSw; have hcw := hSw.1; clear hSw; go_simp; first | done | with_reducible rfl)
      simp only [Act.put, List.setIfInBounds_toArray, List.set_cons_zero, List.set_cons_succ]
      refine wpAnyH_take (i := 4) (oi := ⟨some 21, .fieldAddr 167 (.tmp 7) 0, 0, "store.go:193", #[], none⟩) (v := ?vmor55) rfl (by kernel_rfl) (by kernel_rfl) (by kernel_rfl) (fun _ _ _ h => h) (Or.inl ⟨by rfl, ?ymor55⟩) hk ?rmor55
      case ymor55 => (intro w hSw; (try dsimp only at hSw); go_simp; first | done | with_reducible rfl)
      simp only [Act.put, List.setIfInBounds_toArray, List.set_cons_zero, List.set_cons_succ]
      refine wpAnyH_take (i := 5) (oi := ⟨some 22, .load 9 (.tmp 21), 9, "store.go:193", #[⟨4, .data⟩], none⟩) (v := ?vmor56) rfl (by kernel_rfl) (by kernel_rfl) (by kernel_rfl) (fun _ _ _ h => h) (Or.inl ⟨by rfl, ?ymor56⟩) hk ?rmor56
      case ymor56 => (intro w hSw; have hcw := hSw.2.1; clear hSw; go_simp; first | done | with_reducible rfl)
      simp only [Act.put, List.setIfInBounds_toArray, List.set_cons_zero, List.set_cons_succ]
      refine wpAnyH_take (i := 6) (oi := ⟨some 23, .lookup 127 (.tmp 20) (.tmp 22) true, 106, "store.go:193", #[⟨3, .data⟩, ⟨5, .data⟩], none⟩) (v := .tuple #[.slice al nl cl, .bool bl]) rfl (by kernel_rfl) (by kernel_rfl) (by kernel_rfl) (fun _ _ _ h => h) (Or.inl ⟨by rfl, ?ymor57⟩) hk ?rmor57
      case ymor57 => (intro w hSw; have hlk := hSw.2.2; go_simp; first | done | with_reducible rfl)
      simp only [Act.put, List.setIfInBounds_toArray, List.set_cons_zero, List.set_cons_succ]
      refine wpAnyH_take (i := 7) (oi := ⟨some 16, .move (.tmp 23), 106, "store.go:193", #[⟨6, .data⟩], none⟩) (v := ?vmor58) rfl (by kernel_rfl) (by kernel_rfl) (by kernel_rfl) (fun _ _ _ h => h) (Or.inl ⟨by rfl, ?ymor58⟩) hk ?rmor58
      case ymor58 => (intro w hSw; (try dsimp only at hSw); go_simp; first | done | with_reducible rfl)
      simp only [Act.put, List.setIfInBounds_toArray, List.set_cons_zero, List.set_cons_succ]
      refine wpAnyH_take (i := 8) (oi := ⟨some 24, .extract (.tmp 16) 0, 34, "store.go:193", #[⟨7, .data⟩], none⟩) (v := ?vmor59) rfl (by kernel_rfl) (by kernel_rfl) (by kernel_rfl) (fun _ _ _ h => h) (Or.inl ⟨by rfl, ?ymor59⟩) hk ?rmor59
      case ymor59 => (intro w hSw; (try dsimp only at hSw); go_simp; first | done | with_reducible rfl)
      simp only [Act.put, List.setIfInBounds_toArray, List.set_cons_zero, List.set_cons_succ]
      refine wpAnyH_take (i := 9) (oi := ⟨some 25, .extract (.tmp 16) 1, 4, "store.go:193", #[⟨7, .data⟩, { on := 10, ground := Ground.gcOnly Departure.lateStores }], none⟩) (v := ?vmor510) rfl (by kernel_rfl) (by kernel_rfl) (by kernel_rfl) (fun _ _ _ h => h) (Or.inl ⟨by rfl, ?ymor510⟩) hk ?rmor510
      case ymor510 => (intro w hSw; (try dsimp only at hSw); go_simp; first | done | with_reducible rfl)
      simp only [Act.put, List.setIfInBounds_toArray, List.set_cons_zero, List.set_cons_succ]
      refine wpAnyH_take (i := 10) (oi := ⟨some 8, .assign (.tmp 24), 34, "store.go:193", #[⟨8, .data⟩, ⟨0, .phase⟩, ⟨1, .phase⟩, ⟨2, .phase⟩, ⟨3, .phase⟩, ⟨4, .phase⟩, ⟨5, .phase⟩, ⟨6, .phase⟩, ⟨7, .phase⟩, ⟨8, .phase⟩, { on := 9, ground := Ground.textOnly Departure.lateStores }], none⟩) (v := ?vmor511) rfl (by kernel_rfl) (by kernel_rfl) (by kernel_rfl) (fun _ _ _ h => h) (Or.inl ⟨by rfl, ?ymor511⟩) hk ?rmor511
      case ymor511 => (intro w hSw; (try dsimp only at hSw); go_simp; first | done | with_reducible rfl)
      simp only [Act.put, List.setIfInBounds_toArray, List.set_cons_zero, List.set_cons_succ]
      refine wpAnyH_take (i := 11) (oi := ⟨some 9, .assign (.tmp 25), 4, "store.go:193", #[⟨9, .data⟩, ⟨10, .chain⟩, ⟨0, .phase⟩, ⟨1, .phase⟩, ⟨2, .phase⟩, ⟨3, .phase⟩, ⟨4, .phase⟩, ⟨5, .phase⟩, ⟨6, .phase⟩, ⟨7, .phase⟩, ⟨8, .phase⟩, ⟨9, .phase⟩, ⟨10, .phase⟩], none⟩) (v := ?vmor512) rfl (by kernel_rfl) (by kernel_rfl) (by kernel_rfl) (fun _ _ _ h => h) (Or.inl ⟨by rfl, ?ymor512⟩) hk ?rmor512
      case ymor512 => (intro w hSw; (try dsimp only at hSw); go_simp; first | done | with_reducible rfl)
      simp only [Act.put, List.setIfInBounds_toArray, List.set_cons_zero, List.set_cons_succ]
      refine wpAnyH_done (by decide +kernel) ?_ _
      have hbw2 := HD.out.1
      have j0 : wk.cell? ⟨gc, 0, none⟩ = some (.string kk) := cell_of_row wk gc 0 _ _ (0, 0) HD.out.2
      have j1 : wk.cell? ⟨gc, 1, none⟩ = some (.bool dd) := cell_of_row wk gc 1 _ _ (0, 0) HD.out.2
      have j2 : wk.cell? ⟨gc, 2, none⟩ = some (.slice ai ni ci) := cell_of_row wk gc 2 _ _ (0, 0) HD.out.2
      clear HD hk
      rcases HLK2.out with ⟨rfl, hby⟩ | ⟨rfl, hby⟩
      · rw [hby] at HM1 hbk
        have w0 : IntKind.i64.wrap ((kk.size : Int) + (nl : Int)) = (kk.size : Int) + (nl : Int) := by rw [IntWalk.i64_in _ (by omega)]
        have w9 : IntKind.i64.wrap (X - ((kk.size : Int) + (nl : Int))) = X - ((kk.size : Int) + (nl : Int)) := by rw [IntWalk.i64_in _ (by omega)]
        by_cases hdl : dd = true
        · subst hdl
          have HF : Bx (moP M L (k + 1) = (X - ((kk.size : Int) + (nl : Int)))) := ⟨by rw [HST.out, HM1.out, if_pos rfl]; omega⟩
          go_wp2_with fail
          go_roundw
          case rel => exact ⟨k + 1, by omega, by go_num, by rw [HF.out], hbw2⟩
          case measure => simp [intOf]; omega
        · obtain rfl : dd = false := by simpa using hdl
          have HF : Bx (moP M L (k + 1) = (X - ((kk.size : Int) + (nl : Int))) + ((kk.size : Int) + (ni : Int))) := ⟨by rw [HST.out, HM1.out, if_neg (by simp)]; omega⟩
          have w1 : IntKind.i64.wrap ((kk.size : Int) + (ni : Int)) = (kk.size : Int) + (ni : Int) := by rw [IntWalk.i64_in _ (by omega)]
          have w2 : IntKind.i64.wrap ((X - ((kk.size : Int) + (nl : Int))) + ((kk.size : Int) + (ni : Int))) = (X - ((kk.size : Int) + (nl : Int))) + ((kk.size : Int) + (ni : Int)) := by rw [IntWalk.i64_in _ (by omega)]
          go_wp2_with fail
          go_roundw
          case rel => exact ⟨k + 1, by omega, by go_num, by rw [HF.out], hbw2⟩
          case measure => simp [intOf]; omega
      · rw [hby] at HM1
        by_cases hdl : dd = true
        · subst hdl
          have HF : Bx (moP M L (k + 1) = X) := ⟨by rw [HST.out, HM1.out, if_pos rfl]; omega⟩
          go_wp2_with fail
          go_roundw
          case rel => exact ⟨k + 1, by omega, by go_num, by rw [HF.out], hbw2⟩
          case measure => simp [intOf]; omega
        · obtain rfl : dd = false := by simpa using hdl
          have HF : Bx (moP M L (k + 1) = X + ((kk.size : Int) + (ni : Int))) := ⟨by rw [HST.out, HM1.out, if_neg (by simp)]; omega⟩
          have w1 : IntKind.i64.wrap ((kk.size : Int) + (ni : Int)) = (kk.size : Int) + (ni : Int) := by rw [IntWalk.i64_in _ (by omega)]
          have w2 : IntKind.i64.wrap (X + ((kk.size : Int) + (ni : Int))) = X + ((kk.size : Int) + (ni : Int)) := by rw [IntWalk.i64_in _ (by omega)]
          go_wp2_with fail
          go_roundw
          case rel => exact ⟨k + 1, by omega, by go_num, by rw [HF.out], hbw2⟩
          case measure => simp [intOf]; omega
    · have hkI : ¬ (k : Int) < (len : Int) := by omega
      have HF : Bx (moP M L k = moM M L) := ⟨moP_all M L k (by rw [HLEN.out]; omega)⟩
      rw [HF.out]
      go_wp2_with fail
      go_ret
      exact ⟨rfl, hbw⟩
set_option maxRecDepth 100000 in
theorem doM_step (M : List Pr) (L : List Chg) (k : Nat) (h : k < L.length) : doM M (L.take (k + 1)) = upd (doM M (L.take k)) L[k] := by
  unfold doM
  rw [List.take_succ_eq_append_getElem h, List.foldl_append]; rfl
/-- a store, beside a list of changes that are not its own -/
structure SdS (w wk : World) (gs gl gm : Nat) (q us : Int) (own own2 : Nat → Prop) (B : Nat → Prop) (ao : Option Addr) (len cap : Nat) (L : List Chg) (M2 : List Pr) (es : Array MapEntry) (clock : Nat) (Z : List (It Pr)) : Prop where
  st : StR wk gs gl gm q us own2 M2 es clock Z
  did : Did own w wk own2
  lst : CT B wk ao len cap L
  om : own gm
def Sds (w wk : World) (gs gl : Nat) (q us : Int) (own own2 : Nat → Prop) (B : Nat → Prop) (ao : Option Addr) (len cap : Nat) (L : List Chg) (M2 : List Pr) : Prop := ∃ gm es clock Z, SdS w wk gs gl gm q us own own2 B ao len cap L M2 es clock Z
set_option maxRecDepth 100000 in
theorem SdS.below {w wk wk' : World} {gs gl gm : Nat} {q us : Int} {own own2 B : Nat → Prop} {ao : Option Addr} {len cap : Nat} {L : List Chg} {M2 : List Pr} {es : Array MapEntry} {clock : Nat} {Z : List (It Pr)} (h : SdS w wk gs gl gm q us own own2 B ao len cap L M2 es clock Z) (hb : Below wk.heap.size wk wk') : SdS w wk' gs gl gm q us own own2 B ao len cap L M2 es clock Z :=
  ⟨h.st.keep (fun k hk => hb.block k (h.st.lt k hk)) hb.size, h.did.below hb, h.lst.below hb, h.om⟩
set_option maxRecDepth 100000 in
theorem SdS.drew {w wk : World} {gs gl gm : Nat} {q us : Int} {own own2 B : Nat → Prop} {ao : Option Addr} {len cap : Nat} {L : List Chg} {M2 : List Pr} {es : Array MapEntry} {clock : Nat} {Z : List (It Pr)} (h : SdS w wk gs gl gm q us own own2 B ao len cap L M2 es clock Z) : SdS w wk.drew gs gl gm q us own own2 B ao len cap L M2 es clock Z :=
  h.below ((Below.refl _ _).drew)
set_option maxRecDepth 100000 in
/-- the map's entries change, all else stays -/
theorem SdS.set {w wk : World} {gs gl gm : Nat} {q us : Int} {own own2 own3 B : Nat → Prop} {ao : Option Addr} {len cap : Nat} {L : List Chg} {M2 M3 : List Pr} {es es2 : Array MapEntry} {clock clock2 : Nat} {Z Z2 : List (It Pr)} (h : SdS w wk gs gl gm q us own own2 B ao len cap L M2 es clock Z)
    (hst : StR (setM wk gm es2 clock2) gs gl gm q us own3 M3 es2 clock2 Z2) (hnew : ∀ k, own3 k → own2 k ∨ (w.heap.size ≤ k ∧ k < wk.heap.size)) (hB : ∀ k, B k → ¬ own k) : SdS w (setM wk gm es2 clock2) gs gl gm q us own own3 B ao len cap L M3 es2 clock2 Z2 := by
  refine ⟨hst, ⟨⟨h.did.kept.os, h.did.kept.tape, h.did.kept.output, by rw [setM_size]; exact h.did.kept.size, fun k hk hn => ?_⟩, fun k hk => ?_⟩, h.lst.keep (fun k _ ho => setM_other wk es2 clock2 (fun e => hB k ho (by rw [e]; exact h.om))) (by rw [setM_size]; exact Nat.le_refl _) (fun _ _ h => h), h.om⟩
  · rw [setM_other wk es2 clock2 (fun e => hn (by rw [e]; exact h.om))]
    exact h.did.kept.block k hk hn
  · rw [setM_size]
    rcases hnew k hk with h1 | h1
    · exact h.did.new k h1
    · exact .inr h1
set_option maxRecDepth 100000 in
theorem cell_setM (w : World) {gm g : Nat} (es : Array MapEntry) (clock : Nat) (h : g ≠ gm) (j : Nat) : (setM w gm es clock).cell? ⟨g, j, none⟩ = w.cell? ⟨g, j, none⟩ := World.cell?_of_block (a := ⟨g, j, none⟩) (setM_other w es clock h)
set_option maxRecDepth 100000 in
set_option maxHeartbeats 4000000 in
set_option maxRecDepth 100000 in
theorem do_anyS (gs gl : Nat) (q us : Int) (own : Nat → Prop) (M : List Pr) (B : Nat → Prop) (ao : Option Addr) (len cap : Nat) (L : List Chg) (w : World) (hs : StS w gs gl q us own M) (h : CT B w ao len cap L) (hB : ∀ k, B k → ¬ own k) (hc : ∀ c ∈ L, COk c) (hlen : len ≤ 16) (hu0 : 0 ≤ us) (hu1 : us ≤ 1099511627776) :
    Calls Tryz.prog 86 #[.pointer (some ⟨gs, 0, none⟩), .slice ao len cap] w fun e w' => e = .returned (.tuple #[]) ∧ ∃ own2, StS w' gs gl q (us + moM M L) own2 (doM M L) ∧ Did own w w' own2 := by
  obtain ⟨gm, es, clock, Z, hR⟩ := hs
  have HR : Bx (StR w gs gl gm q us own M es clock Z) := ⟨hR⟩
  have HL : Bx (CT B w ao len cap L) := ⟨h⟩
  have HC : Bx (∀ c ∈ L, COk c) := ⟨hc⟩
  have HBO : Bx (∀ k, B k → ¬ own k) := ⟨hB⟩
  have HLEN : Bx (L.length = len) := ⟨h.len_eq⟩
  have hcl := h.le_cap
  have hcm := h.cap_le
  unfold maxLen at hcm
  have hmb := moP_bd hR.mo hc len (by omega)
  rw [moP_all M L len (by rw [HLEN.out]; exact Nat.le_refl _)] at hmb
  have HMO : Bx (∀ W, Below w.heap.size w W → Calls Tryz.prog 162 #[.pointer (some ⟨gs, 0, none⟩), .slice ao len cap] W fun e w' => e = .returned (.int .i64 (moM M L)) ∧ Below w.heap.size w w') := ⟨fun W hW => (more_any gs gl q us own M B ao len cap L W ⟨gm, es, clock, Z, hR.keep (fun k hk => hW.block k (hR.lt k hk)) hW.size⟩ (h.below hW) hc hlen).mono fun _ _ ⟨e1, e2⟩ => ⟨e1, bstep hW e2⟩⟩
  obtain ⟨U, HU⟩ : ∃ U, Bx (U = us + moM M L) := ⟨_, ⟨rfl⟩⟩
  have hwu : IntKind.i64.wrap (us + moM M L) = us + moM M L := by rw [IntWalk.i64_in _ (by omega)]
  generalize hm : moM M L = mo at HMO HU hwu hmb ⊢
  have HK : Bx (Below w.heap.size w w.drew) := ⟨(Below.refl _ _).drew⟩
  have hk : True := trivial
  clear h hB hc hR hm
  go_enter Tryz.func86, Tryz.ntmps86
  go_wp2_with fail
  go_cut [] from 6 to 15 (fun wx => Bx (SdS w wx gs gl gm q (us + mo) own own B ao len cap L M es clock Z))
  case first =>
    refine wp_region_held_drew (S := fun _ => True) (by kernel_rfl) hk (fun _ => ?_)
    generalize w.drew = wk at HK ⊢
    refine wpAnyH_take (i := 0) (oi := ⟨some 6, .move (.tmp 0), 57, "store.go:205", #[], none⟩) (v := ?vdo01) rfl (by kernel_rfl) (by kernel_rfl) (by kernel_rfl) (fun _ _ _ h => h) (Or.inl ⟨by rfl, ?ydo01⟩) hk ?rdo01
    case ydo01 => (intro w hSw; (try dsimp only at hSw); go_simp; first | done | with_reducible rfl)
    simp only [Act.put, List.setIfInBounds_toArray, List.set_cons_zero, List.set_cons_succ]
    refine wpAnyH_take (i := 1) (oi := ⟨some 7, .nilCheck (.tmp 6), 0, "store.go:205", #[⟨0, .data⟩], none⟩) (v := ?vdo02) rfl (by kernel_rfl) (by kernel_rfl) (by kernel_rfl) (fun _ _ _ h => h) (Or.inl ⟨by rfl, ?ydo02⟩) hk ?rdo02
    case ydo02 => (intro w hSw; (try dsimp only at hSw); go_simp; first | done | with_reducible rfl)
    simp only [Act.put, List.setIfInBounds_toArray, List.set_cons_zero, List.set_cons_succ]
    refine wpAnyH_take (i := 2) (oi := ⟨some 8, .fieldAddr 129 (.tmp 7) 3, 0, "store.go:205", #[⟨1, .data⟩], none⟩) (v := ?vdo03) rfl (by kernel_rfl) (by kernel_rfl) (by kernel_rfl) (fun _ _ _ h => h) (Or.inl ⟨by rfl, ?ydo03⟩) hk ?rdo03
    case ydo03 => (intro w hSw; (try dsimp only at hSw); go_simp; first | done | with_reducible rfl)
    simp only [Act.put, List.setIfInBounds_toArray, List.set_cons_zero, List.set_cons_succ]
    refine wpAnyH_take (i := 4) (oi := ⟨some 10, .move (.tmp 0), 57, "store.go:205", #[], none⟩) (v := ?vdo04) rfl (by kernel_rfl) (by kernel_rfl) (by kernel_rfl) (fun _ _ _ h => h) (Or.inl ⟨by rfl, ?ydo04⟩) hk ?rdo04
    case ydo04 => (intro w hSw; (try dsimp only at hSw); go_simp; first | done | with_reducible rfl)
    simp only [Act.put, List.setIfInBounds_toArray, List.set_cons_zero, List.set_cons_succ]
    refine wpAnyH_take (i := 5) (oi := ⟨some 11, .move (.tmp 1), 155, "store.go:205", #[], none⟩) (v := ?vdo05) rfl (by kernel_rfl) (by kernel_rfl) (by kernel_rfl) (fun _ _ _ h => h) (Or.inl ⟨by rfl, ?ydo05⟩) hk ?rdo05
    case ydo05 => (intro w hSw; (try dsimp only at hSw); go_simp; first | done | with_reducible rfl)
    simp only [Act.put, List.setIfInBounds_toArray, List.set_cons_zero, List.set_cons_succ]
    refine wpAnyH_ready (rs := [3, 6]) (by decide +kernel) (by simp) ?_
    refine (AllReadyH.cons (o := ⟨some 9, .load 3 (.tmp 8), 3, "store.go:205", #[⟨2, .data⟩], none⟩) rfl (fun K hK => ?_) (AllReadyH.cons (o := ⟨some 12, .call { callee := .value (.func 162), args := #[.tmp 10, .tmp 11], argTypes := #[57, 155] }, 3, "store.go:205", #[⟨4, .data⟩, ⟨5, .data⟩], none⟩) rfl (fun K hK => ?_) AllReadyH.nil))
    · rw [if_pos (by rfl)]
      have k3 : wk.cell? ⟨gs, 3, none⟩ = some (.int .i64 us) := (HK.out.cell (p := ⟨gs, 3, none⟩) (HR.out.lt _ HR.out.og)).trans HR.out.c3
      go_simp
      clear k3
      refine hK.out _ _ hk (fun _ => ?_)
      clear hK K
      try simp only [Act.put, List.setIfInBounds_toArray, List.set_cons_zero, List.set_cons_succ]
      refine wpAnyH_ready (rs := [6]) (by decide +kernel) (by simp) ?_
      refine AllReadyH.cons (o := ⟨some 12, .call { callee := .value (.func 162), args := #[.tmp 10, .tmp 11], argTypes := #[57, 155] }, 3, "store.go:205", #[⟨4, .data⟩, ⟨5, .data⟩], none⟩) rfl (fun K hK => ?_) AllReadyH.nil
      go_simp
      refine (HMO.out _ HK.out).mono ?_
      rintro e6 w6 ⟨rfl, hb6⟩
      replace HK : Bx (Below w.heap.size w w6) := ⟨hb6⟩
      clear hb6
      obtain ⟨wk, hwk⟩ : ∃ x, x = w6 := ⟨_, rfl⟩
      subst hwk
      refine hK.out _ _ hk (fun _ => ?_)
      clear hK K
      try simp only [Act.put, List.setIfInBounds_toArray, List.set_cons_zero, List.set_cons_succ]
      refine wpAnyH_take (i := 7) (oi := ⟨some 13, .binOp .add 3 (.tmp 9) (.tmp 12) 3, 3, "store.go:205", #[⟨3, .data⟩, ⟨6, .data⟩], none⟩) (v := ?vdo07) rfl (by kernel_rfl) (by kernel_rfl) (by kernel_rfl) (fun _ _ _ h => h) (Or.inl ⟨by rfl, ?ydo07⟩) hk ?rdo07
      case ydo07 => (intro w hSw; (try dsimp only at hSw); go_simp; first | done | with_reducible rfl)
      simp only [Act.put, List.setIfInBounds_toArray, List.set_cons_zero, List.set_cons_succ]
      refine wpAnyH_take (i := 8) (oi := ⟨some 14, .nilCheck (.tmp 6), 0, "store.go:205", #[⟨0, .data⟩, ⟨0, .phase⟩, ⟨1, .phase⟩, ⟨2, .phase⟩, ⟨3, .phase⟩, ⟨4, .phase⟩, ⟨5, .phase⟩, ⟨6, .phase⟩, ⟨7, .phase⟩], none⟩) (v := ?vdo08) rfl (by kernel_rfl) (by kernel_rfl) (by kernel_rfl) (fun _ _ _ h => h) (Or.inl ⟨by rfl, ?ydo08⟩) hk ?rdo08
      case ydo08 => (intro w hSw; (try dsimp only at hSw); go_simp; first | done | with_reducible rfl)
      simp only [Act.put, List.setIfInBounds_toArray, List.set_cons_zero, List.set_cons_succ]
      refine wpAnyH_take (i := 9) (oi := ⟨some 15, .fieldAddr 129 (.tmp 14) 3, 0, "store.go:205", #[⟨8, .data⟩, ⟨0, .phase⟩, ⟨1, .phase⟩, ⟨2, .phase⟩, ⟨3, .phase⟩, ⟨4, .phase⟩, ⟨5, .phase⟩, ⟨6, .phase⟩, ⟨7, .phase⟩], none⟩) (v := ?vdo09) rfl (by kernel_rfl) (by kernel_rfl) (by kernel_rfl) (fun _ _ _ h => h) (Or.inl ⟨by rfl, ?ydo09⟩) hk ?rdo09
      case ydo09 => (intro w hSw; (try dsimp only at hSw); go_simp; first | done | with_reducible rfl)
      simp only [Act.put, List.setIfInBounds_toArray, List.set_cons_zero, List.set_cons_succ]
      refine wpAnyH_ready (rs := [10]) (by decide +kernel) (by simp) ?_
      refine AllReadyH.cons (o := ⟨none, .store 3 (.tmp 15) (.tmp 13), 0, "store.go:205", #[⟨9, .data⟩, ⟨7, .data⟩, ⟨6, .chain⟩, ⟨0, .phase⟩, ⟨1, .phase⟩, ⟨2, .phase⟩, ⟨3, .phase⟩, ⟨4, .phase⟩, ⟨5, .phase⟩, ⟨6, .phase⟩, ⟨7, .phase⟩], none⟩) rfl (fun K hK => ?_) AllReadyH.nil
      rw [if_pos (by rfl)]
      have k3 : wk.cell? ⟨gs, 3, none⟩ = some (.int .i64 us) := (HK.out.cell (p := ⟨gs, 3, none⟩) (HR.out.lt _ HR.out.og)).trans HR.out.c3
      have f3 : wk.frozen? ⟨gs, 3, none⟩ = false := (HR.out.keep (fun k hk => HK.out.block k (HR.out.lt k hk)) HK.out.size).fr 3
      go_simp
      clear k3 f3
      refine hK.out _ _ hk (fun _ => ?_)
      clear hK K
      try simp only [Act.put, List.setIfInBounds_toArray, List.set_cons_zero, List.set_cons_succ]
      refine wpAnyH_done (by decide +kernel) ?_ _
      have HX : Bx (SdS w (wk.setCell ⟨gs, 3, none⟩ (.int .i64 (us + mo))) gs gl gm q (us + mo) own own B ao len cap L M es clock Z) := ⟨(HR.out.keep (fun k hk => HK.out.block k (HR.out.lt k hk)) HK.out.size).setUsed _, Did.same ((Kept.of_below HK.out).setCell (.inl HR.out.og) 3 _), (HL.out.below HK.out).keep (fun j _ ho => heap_setCell_other wk ⟨gs, 3, none⟩ j _ (fun e => HBO.out j ho (by rw [e]; exact HR.out.og))) (by simp) (fun _ _ h => h), HR.out.om⟩
      generalize wk.setCell ⟨gs, 3, none⟩ (.int .i64 (us + mo)) = wx at HX ⊢
      go_wp2_with fail
      go_meet
      case rel => exact HX
    · go_simp
      refine (HMO.out _ HK.out).mono ?_
      rintro e6 w6 ⟨rfl, hb6⟩
      replace HK : Bx (Below w.heap.size w w6) := ⟨hb6⟩
      clear hb6
      obtain ⟨wk, hwk⟩ : ∃ x, x = w6 := ⟨_, rfl⟩
      subst hwk
      refine hK.out _ _ hk (fun _ => ?_)
      clear hK K
      try simp only [Act.put, List.setIfInBounds_toArray, List.set_cons_zero, List.set_cons_succ]
      refine wpAnyH_ready (rs := [3]) (by decide +kernel) (by simp) ?_
      refine AllReadyH.cons (o := ⟨some 9, .load 3 (.tmp 8), 3, "store.go:205", #[⟨2, .data⟩], none⟩) rfl (fun K hK => ?_) AllReadyH.nil
      rw [if_pos (by rfl)]
      have k3 : wk.cell? ⟨gs, 3, none⟩ = some (.int .i64 us) := (HK.out.cell (p := ⟨gs, 3, none⟩) (HR.out.lt _ HR.out.og)).trans HR.out.c3
      go_simp
      clear k3
      refine hK.out _ _ hk (fun _ => ?_)
      clear hK K
      try simp only [Act.put, List.setIfInBounds_toArray, List.set_cons_zero, List.set_cons_succ]
      refine wpAnyH_take (i := 7) (oi := ⟨some 13, .binOp .add 3 (.tmp 9) (.tmp 12) 3, 3, "store.go:205", #[⟨3, .data⟩, ⟨6, .data⟩], none⟩) (v := ?vdo012) rfl (by kernel_rfl) (by kernel_rfl) (by kernel_rfl) (fun _ _ _ h => h) (Or.inl ⟨by rfl, ?ydo012⟩) hk ?rdo012
      case ydo012 => (intro w hSw; (try dsimp only at hSw); go_simp; first | done | with_reducible rfl)
      simp only [Act.put, List.setIfInBounds_toArray, List.set_cons_zero, List.set_cons_succ]
      refine wpAnyH_take (i := 8) (oi := ⟨some 14, .nilCheck (.tmp 6), 0, "store.go:205", #[⟨0, .data⟩, ⟨0, .phase⟩, ⟨1, .phase⟩, ⟨2, .phase⟩, ⟨3, .phase⟩, ⟨4, .phase⟩, ⟨5, .phase⟩, ⟨6, .phase⟩, ⟨7, .phase⟩], none⟩) (v := ?vdo013) rfl (by kernel_rfl) (by kernel_rfl) (by kernel_rfl) (fun _ _ _ h => h) (Or.inl ⟨by rfl, ?ydo013⟩) hk ?rdo013
      case ydo013 => (intro w hSw; (try dsimp only at hSw); go_simp; first | done | with_reducible rfl)
      simp only [Act.put, List.setIfInBounds_toArray, List.set_cons_zero, List.set_cons_succ]
      refine wpAnyH_take (i := 9) (oi := ⟨some 15, .fieldAddr 129 (.tmp 14) 3, 0, "store.go:205", #[⟨8, .data⟩, ⟨0, .phase⟩, ⟨1, .phase⟩, ⟨2, .phase⟩, ⟨3, .phase⟩, ⟨4, .phase⟩, ⟨5, .phase⟩, ⟨6, .phase⟩, ⟨7, .phase⟩], none⟩) (v := ?vdo014) rfl (by kernel_rfl) (by kernel_rfl) (by kernel_rfl) (fun _ _ _ h => h) (Or.inl ⟨by rfl, ?ydo014⟩) hk ?rdo014
      case ydo014 => (intro w hSw; (try dsimp only at hSw); go_simp; first | done | with_reducible rfl)
      simp only [Act.put, List.setIfInBounds_toArray, List.set_cons_zero, List.set_cons_succ]
      refine wpAnyH_ready (rs := [10]) (by decide +kernel) (by simp) ?_
      refine AllReadyH.cons (o := ⟨none, .store 3 (.tmp 15) (.tmp 13), 0, "store.go:205", #[⟨9, .data⟩, ⟨7, .data⟩, ⟨6, .chain⟩, ⟨0, .phase⟩, ⟨1, .phase⟩, ⟨2, .phase⟩, ⟨3, .phase⟩, ⟨4, .phase⟩, ⟨5, .phase⟩, ⟨6, .phase⟩, ⟨7, .phase⟩], none⟩) rfl (fun K hK => ?_) AllReadyH.nil
      rw [if_pos (by rfl)]
      have k3 : wk.cell? ⟨gs, 3, none⟩ = some (.int .i64 us) := (HK.out.cell (p := ⟨gs, 3, none⟩) (HR.out.lt _ HR.out.og)).trans HR.out.c3
      have f3 : wk.frozen? ⟨gs, 3, none⟩ = false := (HR.out.keep (fun k hk => HK.out.block k (HR.out.lt k hk)) HK.out.size).fr 3
      go_simp
      clear k3 f3
      refine hK.out _ _ hk (fun _ => ?_)
      clear hK K
      try simp only [Act.put, List.setIfInBounds_toArray, List.set_cons_zero, List.set_cons_succ]
      refine wpAnyH_done (by decide +kernel) ?_ _
      have HX : Bx (SdS w (wk.setCell ⟨gs, 3, none⟩ (.int .i64 (us + mo))) gs gl gm q (us + mo) own own B ao len cap L M es clock Z) := ⟨(HR.out.keep (fun k hk => HK.out.block k (HR.out.lt k hk)) HK.out.size).setUsed _, Did.same ((Kept.of_below HK.out).setCell (.inl HR.out.og) 3 _), (HL.out.below HK.out).keep (fun j _ ho => heap_setCell_other wk ⟨gs, 3, none⟩ j _ (fun e => HBO.out j ho (by rw [e]; exact HR.out.og))) (by simp) (fun _ _ h => h), HR.out.om⟩
      generalize wk.setCell ⟨gs, 3, none⟩ (.int .i64 (us + mo)) = wx at HX ⊢
      go_wp2_with fail
      go_meet
      case rel => exact HX
  case rest =>
    have HX := hcut
    clear hcut HK HMO HR HL
    have hst : ∃ (k : Nat) (own2 : Nat → Prop), k ≤ len ∧ (0 : Int) = k ∧ Bx (Sds w wc gs gl q (us + mo) own own2 B ao len cap L (doM M (L.take k))) := ⟨0, own, Nat.zero_le _, rfl, ⟨gm, es, clock, Z, HX.out⟩⟩
    clear HX
    go_wp2_with fail
    go_loopw [18] (fun i wr => ∃ (k : Nat) (own2 : Nat → Prop), k ≤ len ∧ i = .int .i64 k ∧ Bx (Sds w wr gs gl q (us + mo) own own2 B ao len cap L (doM M (L.take k)))) (fun i _ => len - (intOf i).toNat)
    case atStart =>
      obtain ⟨k, own2, h1, h2, h3⟩ := hst
      exact ⟨k, own2, h1, by rw [h2], h3⟩
    case round =>
      clear hst
      obtain ⟨k, own2, hk2, rfl, HS⟩ := hrel
      by_cases hlt : k < len
      · have hkI : (k : Int) < (len : Int) := by omega
        have hkL : k < L.length := by rw [HLEN.out]; exact hlt
        have HST : Bx (doM M (L.take (k + 1)) = upd (doM M (L.take k)) L[k]) := ⟨doM_step M L k hkL⟩
        have hck := HC.out _ (List.getElem_mem hkL)
        obtain ⟨gm, es, clock, Z, hX⟩ := HS.out
        obtain ⟨b, off, ai, ni, ci, rfl, hbl, hB, h1, h2, h3, hbt, hlo⟩ := hX.lst.chg k hlt
        have hv40 := hck.v
        have hvl := hbt.len_eq
        generalize hcc : L[k] = cc at h1 h2 hbt hck hv40 hvl HST
        obtain ⟨kk, dd, vv⟩ := cc
        simp only at h1 h2 hbt hv40 hvl
        have hba : Below wr.heap.size wr (wr.alloc (.cells #[.string kk, .bool dd, .slice ai ni ci] 167)) := (Below.refl _ _).alloc (Nat.le_refl _) _
        have HXA := Bx.mk (hX.below hba)
        have HVA := Bx.mk (hbt.below hba)
        have HVB : Bx (0 < ni → ∀ p, ai = some p → B p.block) := ⟨hlo⟩
        have hra : (wr.alloc (.cells #[.string kk, .bool dd, .slice ai ni ci] 167)).heap[wr.heap.size]? = some (.cells #[.string kk, .bool dd, .slice ai ni ci] 167 (0, 0)) := heap_alloc_new wr _
        obtain ⟨gc, HGC⟩ : ∃ gc, Bx (gc = wr.heap.size) := ⟨_, ⟨rfl⟩⟩
        rw [← HGC.out] at hra
        have HRA0 := Bx.mk hra
        have HGN : Bx (¬ own2 gc ∧ gc ≠ gm ∧ gc ≠ gs) := ⟨fun ho => by have := hX.st.lt gc ho; have := HGC.out; omega, fun e => by have := hX.st.lt gm hX.st.om; have := HGC.out; omega, fun e => by have := hX.st.lt gs hX.st.og; have := HGC.out; omega⟩
        clear hcc hbt hlo hX HS hba hra
        by_cases hdl : dd = true
        · subst hdl
          go_wp2_with fail
          rw [← HGC.out]
          generalize wr.alloc (.cells #[.string kk, .bool true, .slice ai ni ci] 167) = wa at HXA HVA HRA0 ⊢
          have HX := Bx.mk HXA.out.drew
          have HRA : Bx (wa.drew.heap[gc]? = some (.cells #[.string kk, .bool true, .slice ai ni ci] 167 (0, 0))) := ⟨HRA0.out⟩
          have hk : wa.drew.cell? ⟨gs, 2, none⟩ = some (.map (some gm)) ∧ wa.drew.cell? ⟨gc, 0, none⟩ = some (.string kk) ∧ wa.drew.cell? ⟨gc, 2, none⟩ = some (.slice ai ni ci) := ⟨HX.out.st.c2, cell_of_row wa.drew gc 0 _ _ (0, 0) HRA.out, cell_of_row wa.drew gc 2 _ _ (0, 0) HRA.out⟩
          clear HXA HRA0 HVA h1 h2 h3
          refine wp_region_held_drew (S := fun W => W.cell? ⟨gs, 2, none⟩ = some (.map (some gm)) ∧ W.cell? ⟨gc, 0, none⟩ = some (.string kk) ∧ W.cell? ⟨gc, 2, none⟩ = some (.slice ai ni ci)) (by kernel_rfl) hk (fun _ => ?_)
          generalize hwk : wa.drew = wk at hk HX HRA ⊢
          clear hwk
          refine wpAnyH_take (i := 0) (oi := ⟨some 24, .move (.tmp 0), 57, "store.go:208", #[], none⟩) (v := ?vdo51) rfl (by kernel_rfl) (by kernel_rfl) (by kernel_rfl) (fun _ _ _ h => h) (Or.inl ⟨by rfl, ?ydo51⟩) hk ?rdo51
          case ydo51 => (intro w hSw; (try dsimp only at hSw); go_simp; first | done | with_reducible rfl)
          simp only [Act.put, List.setIfInBounds_toArray, List.set_cons_zero, List.set_cons_succ]
          refine wpAnyH_take (i := 1) (oi := ⟨some 25, .nilCheck (.tmp 24), 0, "store.go:208", #[⟨0, .data⟩], none⟩) (v := ?vdo52) rfl (by kernel_rfl) (by kernel_rfl) (by kernel_rfl) (fun _ _ _ h => h) (Or.inl ⟨by rfl, ?ydo52⟩) hk ?rdo52
          case ydo52 => (intro w hSw; (try dsimp only at hSw); go_simp; first | done | with_reducible rfl)
          simp only [Act.put, List.setIfInBounds_toArray, List.set_cons_zero, List.set_cons_succ]
          refine wpAnyH_take (i := 2) (oi := ⟨some 26, .fieldAddr 129 (.tmp 25) 2, 0, "store.go:208", #[⟨1, .data⟩], none⟩) (v := ?vdo53) rfl (by kernel_rfl) (by kernel_rfl) (by kernel_rfl) (fun _ _ _ h => h) (Or.inl ⟨by rfl, ?ydo53⟩) hk ?rdo53
          case ydo53 => (intro w hSw; (try dsimp only at hSw); go_simp; first | done | with_reducible rfl)
          simp only [Act.put, List.setIfInBounds_toArray, List.set_cons_zero, List.set_cons_succ]
          refine wpAnyH_take (i := 3) (oi := ⟨some 27, .load 127 (.tmp 26), 127, "store.go:208", #[⟨2, .data⟩], none⟩) (v := ?vdo54) rfl (by kernel_rfl) (by kernel_rfl) (by kernel_rfl) (fun _ _ _ h => h) (Or.inl ⟨by rfl, ?ydo54⟩) hk ?rdo54
          case ydo54 => (intro w hSw; have hcw := hSw.1; clear hSw; go_simp; first | done | with_reducible rfl)
          simp only [Act.put, List.setIfInBounds_toArray, List.set_cons_zero, List.set_cons_succ]
          refine wpAnyH_take (i := 4) (oi := ⟨some 28, .fieldAddr 167 (.tmp 5) 0, 0, "store.go:208", #[], none⟩) (v := ?vdo55) rfl (by kernel_rfl) (by kernel_rfl) (by kernel_rfl) (fun _ _ _ h => h) (Or.inl ⟨by rfl, ?ydo55⟩) hk ?rdo55
          case ydo55 => (intro w hSw; (try dsimp only at hSw); go_simp; first | done | with_reducible rfl)
          simp only [Act.put, List.setIfInBounds_toArray, List.set_cons_zero, List.set_cons_succ]
          refine wpAnyH_take (i := 5) (oi := ⟨some 29, .load 9 (.tmp 28), 9, "store.go:208", #[⟨4, .data⟩], none⟩) (v := ?vdo56) rfl (by kernel_rfl) (by kernel_rfl) (by kernel_rfl) (fun _ _ _ h => h) (Or.inl ⟨by rfl, ?ydo56⟩) hk ?rdo56
          case ydo56 => (intro w hSw; have hcw := hSw.2.1; clear hSw; go_simp; first | done | with_reducible rfl)
          simp only [Act.put, List.setIfInBounds_toArray, List.set_cons_zero, List.set_cons_succ]
          refine wpAnyH_ready (rs := [6]) (by decide +kernel) (by simp) ?_
          refine AllReadyH.cons (o := ⟨none, .call { callee := .builtin Builtin.delete, args := #[.tmp 27, .tmp 29], argTypes := #[127, 9] }, 0, "store.go:208", #[⟨3, .data⟩, ⟨5, .data⟩], none⟩) rfl (fun K hK => ?_) AllReadyH.nil
          rw [if_pos (by rfl)]
          obtain ⟨es2, clock2, Z2, hdel, hst2⟩ := HX.out.st.del vv 0 hck
          go_simp
          have HX2 := Bx.mk (HX.out.set hst2 (fun k hk => .inl hk) HBO.out)
          replace hk : (setM wk gm es2 clock2).cell? ⟨gs, 2, none⟩ = some (.map (some gm)) ∧ (setM wk gm es2 clock2).cell? ⟨gc, 0, none⟩ = some (.string kk) ∧ (setM wk gm es2 clock2).cell? ⟨gc, 2, none⟩ = some (.slice ai ni ci) := ⟨(cell_setM wk es2 clock2 HX.out.st.ne 2).trans hk.1, (cell_setM wk es2 clock2 HGN.out.2.1 0).trans hk.2.1, (cell_setM wk es2 clock2 HGN.out.2.1 2).trans hk.2.2⟩
          clear hdel hst2 HX HRA
          refine hK.out _ _ hk (fun _ => ?_)
          clear hK K
          try simp only [Act.put, List.setIfInBounds_toArray, List.set_cons_zero, List.set_cons_succ]
          refine wpAnyH_done (by decide +kernel) ?_ _
          have HFN : Bx (Sds w (setM wk gm es2 clock2) gs gl q (us + mo) own own2 B (some ⟨b, off, none⟩) len cap L (doM M (L.take (k + 1)))) := ⟨by rw [HST.out]; exact ⟨gm, es2, clock2, Z2, HX2.out⟩⟩
          clear hk HX2 HST hck
          generalize setM wk gm es2 clock2 = w9 at HFN ⊢
          go_wp2_with fail
          go_roundw
          case rel => exact ⟨k + 1, _, by omega, by go_num, HFN⟩
          case measure => simp [intOf]; omega
        · obtain rfl : dd = false := by simpa using hdl
          clear hdl
          go_wp2_with fail
          rw [← HGC.out]
          generalize wr.alloc (.cells #[.string kk, .bool false, .slice ai ni ci] 167) = wa at HXA HVA HRA0 ⊢
          have HX := Bx.mk HXA.out.drew
          have HRA : Bx (wa.drew.heap[gc]? = some (.cells #[.string kk, .bool false, .slice ai ni ci] 167 (0, 0))) := ⟨HRA0.out⟩
          have hk : wa.drew.cell? ⟨gs, 2, none⟩ = some (.map (some gm)) ∧ wa.drew.cell? ⟨gc, 0, none⟩ = some (.string kk) ∧ wa.drew.cell? ⟨gc, 2, none⟩ = some (.slice ai ni ci) := ⟨HX.out.st.c2, cell_of_row wa.drew gc 0 _ _ (0, 0) HRA.out, cell_of_row wa.drew gc 2 _ _ (0, 0) HRA.out⟩
          have HVW : Bx (Bts wa.drew ai ni ci vv) := ⟨HVA.out.drewN 1⟩
          clear HXA HRA0 HVA h1 h2 h3
          refine wp_region_held_drew (S := fun W => W.cell? ⟨gs, 2, none⟩ = some (.map (some gm)) ∧ W.cell? ⟨gc, 0, none⟩ = some (.string kk) ∧ W.cell? ⟨gc, 2, none⟩ = some (.slice ai ni ci)) (by kernel_rfl) hk (fun _ => ?_)
          generalize hwk : wa.drew = wk at hk HX HRA HVW ⊢
          clear hwk
          refine wpAnyH_take (i := 0) (oi := ⟨some 30, .move (.tmp 0), 57, "store.go:210", #[], none⟩) (v := ?vdo61) rfl (by kernel_rfl) (by kernel_rfl) (by kernel_rfl) (fun _ _ _ h => h) (Or.inl ⟨by rfl, ?ydo61⟩) hk ?rdo61
          case ydo61 => (intro w hSw; (try dsimp only at hSw); go_simp; first | done | with_reducible rfl)
          simp only [Act.put, List.setIfInBounds_toArray, List.set_cons_zero, List.set_cons_succ]
          refine wpAnyH_take (i := 1) (oi := ⟨some 31, .nilCheck (.tmp 30), 0, "store.go:210", #[⟨0, .data⟩], none⟩) (v := ?vdo62) rfl (by kernel_rfl) (by kernel_rfl) (by kernel_rfl) (fun _ _ _ h => h) (Or.inl ⟨by rfl, ?ydo62⟩) hk ?rdo62
          case ydo62 => (intro w hSw; (try dsimp only at hSw); go_simp; first | done | with_reducible rfl)
          simp only [Act.put, List.setIfInBounds_toArray, List.set_cons_zero, List.set_cons_succ]
          refine wpAnyH_take (i := 2) (oi := ⟨some 32, .fieldAddr 129 (.tmp 31) 2, 0, "store.go:210", #[⟨1, .data⟩], none⟩) (v := ?vdo63) rfl (by kernel_rfl) (by kernel_rfl) (by kernel_rfl) (fun _ _ _ h => h) (Or.inl ⟨by rfl, ?ydo63⟩) hk ?rdo63
          case ydo63 => (intro w hSw; (try dsimp only at hSw); go_simp; first | done | with_reducible rfl)
          simp only [Act.put, List.setIfInBounds_toArray, List.set_cons_zero, List.set_cons_succ]
          refine wpAnyH_take (i := 3) (oi := ⟨some 33, .load 127 (.tmp 32), 127, "store.go:210", #[⟨2, .data⟩], none⟩) (v := ?vdo64) rfl (by kernel_rfl) (by kernel_rfl) (by kernel_rfl) (fun _ _ _ h => h) (Or.inl ⟨by rfl, ?ydo64⟩) hk ?rdo64
          case ydo64 => (intro w hSw; have hcw := hSw.1; clear hSw; go_simp; first | done | with_reducible rfl)
          simp only [Act.put, List.setIfInBounds_toArray, List.set_cons_zero, List.set_cons_succ]
          refine wpAnyH_take (i := 4) (oi := ⟨some 34, .fieldAddr 167 (.tmp 5) 0, 0, "store.go:210", #[], none⟩) (v := ?vdo65) rfl (by kernel_rfl) (by kernel_rfl) (by kernel_rfl) (fun _ _ _ h => h) (Or.inl ⟨by rfl, ?ydo65⟩) hk ?rdo65
          case ydo65 => (intro w hSw; (try dsimp only at hSw); go_simp; first | done | with_reducible rfl)
          simp only [Act.put, List.setIfInBounds_toArray, List.set_cons_zero, List.set_cons_succ]
          refine wpAnyH_take (i := 5) (oi := ⟨some 35, .load 9 (.tmp 34), 9, "store.go:210", #[⟨4, .data⟩], none⟩) (v := ?vdo66) rfl (by kernel_rfl) (by kernel_rfl) (by kernel_rfl) (fun _ _ _ h => h) (Or.inl ⟨by rfl, ?ydo66⟩) hk ?rdo66
          case ydo66 => (intro w hSw; have hcw := hSw.2.1; clear hSw; go_simp; first | done | with_reducible rfl)
          simp only [Act.put, List.setIfInBounds_toArray, List.set_cons_zero, List.set_cons_succ]
          refine wpAnyH_take (i := 6) (oi := ⟨some 36, .fieldAddr 167 (.tmp 5) 2, 0, "store.go:210", #[], none⟩) (v := ?vdo67) rfl (by kernel_rfl) (by kernel_rfl) (by kernel_rfl) (fun _ _ _ h => h) (Or.inl ⟨by rfl, ?ydo67⟩) hk ?rdo67
          case ydo67 => (intro w hSw; (try dsimp only at hSw); go_simp; first | done | with_reducible rfl)
          simp only [Act.put, List.setIfInBounds_toArray, List.set_cons_zero, List.set_cons_succ]
          refine wpAnyH_take (i := 7) (oi := ⟨some 37, .load 34 (.tmp 36), 34, "store.go:210", #[⟨6, .data⟩], none⟩) (v := ?vdo68) rfl (by kernel_rfl) (by kernel_rfl) (by kernel_rfl) (fun _ _ _ h => h) (Or.inl ⟨by rfl, ?ydo68⟩) hk ?rdo68
          case ydo68 => (intro w hSw; have hcw := hSw.2.2; clear hSw; go_simp; first | done | with_reducible rfl)
          simp only [Act.put, List.setIfInBounds_toArray, List.set_cons_zero, List.set_cons_succ]
          refine wpAnyH_ready (rs := [8]) (by decide +kernel) (by simp) ?_
          refine AllReadyH.cons (o := ⟨some 38, .call { callee := .value (.func 111), args := #[.tmp 37], argTypes := #[34] }, 34, "store.go:210", #[⟨7, .data⟩], none⟩) rfl (fun K hK => ?_) AllReadyH.nil
          go_simp
          refine (clone_any ai ni ci vv _ HVW.out (by omega)).mono ?_
          rintro e7 w7 ⟨v7, rfl, hown7, hb7⟩
          obtain ⟨a7, c7, rfl, hm7⟩ := Bts.of_owns hown7 HVW.out.byt
          have HM7 := Bx.mk hm7
          have HX7 := Bx.mk (HX.out.below hb7)
          have HGL : Bx (gc < wk.heap.size) := ⟨(Array.getElem?_eq_some_iff.1 HRA.out).1⟩
          have HN7 : Bx (0 < ni → ∀ p, a7 = some p → (own2 p.block ∨ (wk.heap.size ≤ p.block ∧ p.block < w7.heap.size)) ∧ p.block ≠ gs ∧ p.block ≠ gm) := ⟨fun hp p e => by
            have h1 := own_ge hown7 p e
            have h2 := HX.out.st.lt gs HX.out.st.og
            have h3 := HX.out.st.lt gm HX.out.st.om
            exact ⟨.inr h1, by omega, by omega⟩⟩
          have HSZ : Bx (w.heap.size ≤ wk.heap.size ∧ wk.heap.size ≤ w7.heap.size) := ⟨HX.out.did.kept.size, hb7.size⟩
          replace hk : w7.cell? ⟨gs, 2, none⟩ = some (.map (some gm)) ∧ w7.cell? ⟨gc, 0, none⟩ = some (.string kk) ∧ w7.cell? ⟨gc, 2, none⟩ = some (.slice ai ni ci) := ⟨HX7.out.st.c2, (hb7.cell (p := ⟨gc, 0, none⟩) HGL.out).trans hk.2.1, (hb7.cell (p := ⟨gc, 2, none⟩) HGL.out).trans hk.2.2⟩
          clear hown7 hb7 hm7
          refine hK.out _ _ hk (fun _ => ?_)
          clear hK K
          try simp only [Act.put, List.setIfInBounds_toArray, List.set_cons_zero, List.set_cons_succ]
          refine wpAnyH_ready (rs := [9]) (by decide +kernel) (by simp) ?_
          refine AllReadyH.cons (o := ⟨none, .mapUpdate 127 (.tmp 33) (.tmp 35) (.tmp 38), 0, "store.go:210", #[⟨3, .data⟩, ⟨5, .data⟩, ⟨8, .data⟩, ⟨8, .chain⟩, ⟨0, .phase⟩, ⟨1, .phase⟩, ⟨2, .phase⟩, ⟨3, .phase⟩, ⟨4, .phase⟩, ⟨5, .phase⟩, ⟨6, .phase⟩, ⟨7, .phase⟩, ⟨8, .phase⟩], none⟩) rfl (fun K hK => ?_) AllReadyH.nil
          rw [if_pos (by rfl)]
          obtain ⟨es2, clock2, Z2, hupd, hst2⟩ := HX7.out.st.put (own2 := fun k => own2 k ∨ (wk.heap.size ≤ k ∧ k < w7.heap.size)) hck HM7.out HN7.out (fun _ h => .inl h) (fun k hk => by rcases hk with h1 | h1; exact HX7.out.st.lt k h1; exact h1.2)
          go_simp
          have HX2 := Bx.mk (HX7.out.set hst2 (fun k hk => by rcases hk with h1 | h1; exact .inl h1; exact .inr ⟨by have := HSZ.out.1; omega, h1.2⟩) HBO.out)
          replace hk : (setM w7 gm es2 clock2).cell? ⟨gs, 2, none⟩ = some (.map (some gm)) ∧ (setM w7 gm es2 clock2).cell? ⟨gc, 0, none⟩ = some (.string kk) ∧ (setM w7 gm es2 clock2).cell? ⟨gc, 2, none⟩ = some (.slice ai ni ci) := ⟨(cell_setM w7 es2 clock2 HX.out.st.ne 2).trans hk.1, (cell_setM w7 es2 clock2 HGN.out.2.1 0).trans hk.2.1, (cell_setM w7 es2 clock2 HGN.out.2.1 2).trans hk.2.2⟩
          clear hupd hst2 HX HX7 HRA HM7 HN7 HVW
          refine hK.out _ _ hk (fun _ => ?_)
          clear hK K
          try simp only [Act.put, List.setIfInBounds_toArray, List.set_cons_zero, List.set_cons_succ]
          refine wpAnyH_done (by decide +kernel) ?_ _
          have HFN : Bx (Sds w (setM w7 gm es2 clock2) gs gl q (us + mo) own (fun k => own2 k ∨ (wk.heap.size ≤ k ∧ k < w7.heap.size)) B (some ⟨b, off, none⟩) len cap L (doM M (L.take (k + 1)))) := ⟨by rw [HST.out]; exact ⟨gm, es2, clock2, Z2, HX2.out⟩⟩
          clear hk HX2 HST hck
          generalize setM w7 gm es2 clock2 = w9 at HFN ⊢
          go_wp2_with fail
          go_roundw
          case rel => exact ⟨k + 1, _, by omega, by go_num, HFN⟩
          case measure => simp [intOf]; omega
      · have hkI : ¬ (k : Int) < (len : Int) := by omega
        have HF : Bx (doM M (L.take k) = doM M L) := ⟨by rw [List.take_of_length_le (by rw [HLEN.out]; omega)]⟩
        rw [HF.out] at HS
        obtain ⟨gm, es, clock, Z, hX⟩ := HS.out
        have HFIN : Bx (∃ own2, StS wr gs gl q (us + mo) own2 (doM M L) ∧ Did own w wr own2) := ⟨own2, ⟨gm, es, clock, Z, hX.st⟩, hX.did⟩
        clear hX HS
        go_wp2_with fail
        go_end0
        exact ⟨rfl, HFIN.out⟩
end Go.Proofs.YtipakjenggeflaaGreatDoor
namespace Go.Proofs.YtipakjenggeflaaGreatDoor
open Go.RowKit
set_option linter.unusedVariables false

set_option maxRecDepth 100000 in
set_option maxHeartbeats 400000 in
theorem smade_yes (gs gl : Nat) (w : World) (c0 : w.cell? ⟨gs, 0, none⟩ = some (.pointer (some ⟨gl, 0, none⟩))) :
    Calls Tryz.prog 70 #[.pointer (some ⟨gs, 0, none⟩)] w fun e w' => e = .returned (.bool true) ∧ w = w' := by
  go_enter Tryz.func70, Tryz.ntmps70
  go_wp2
  go_ret
  exact ⟨rfl, rfl⟩
set_option maxRecDepth 100000 in
theorem StS.c0 {w : World} {gs gl : Nat} {q us : Int} {own : Nat → Prop} {M : List Pr} (h : StS w gs gl q us own M) : w.cell? ⟨gs, 0, none⟩ = some (.pointer (some ⟨gl, 0, none⟩)) := by obtain ⟨gm, es, clock, Z, h⟩ := h; exact h.c0
set_option maxRecDepth 100000 in
theorem StS.c1 {w : World} {gs gl : Nat} {q us : Int} {own : Nat → Prop} {M : List Pr} (h : StS w gs gl q us own M) : w.cell? ⟨gs, 1, none⟩ = some (.int .i64 q) := by obtain ⟨gm, es, clock, Z, h⟩ := h; exact h.c1
set_option maxRecDepth 100000 in
theorem StS.c3 {w : World} {gs gl : Nat} {q us : Int} {own : Nat → Prop} {M : List Pr} (h : StS w gs gl q us own M) : w.cell? ⟨gs, 3, none⟩ = some (.int .i64 us) := by obtain ⟨gm, es, clock, Z, h⟩ := h; exact h.c3
/-- what Commit answers, and makes -/
def coN (q : Int) (M : List Pr) (l : List Chg) : Bool := decide (chkL l = 0) && !(decide (0 < moM M l) && decide (q < (byM M : Int) + moM M l))
def coE (s : DS) (L : LS) (q : Int) (M : List Pr) (l : List Chg) : Int := if chkL l ≠ 0 then chkL l else if coN q M l = false then 12 else apE s L (encL l)
def coS (s : DS) (L : LS) (q : Int) (M : List Pr) (l : List Chg) : DS := if coN q M l = true then apS s L (encL l) else s
def coL (s : DS) (L : LS) (q : Int) (M : List Pr) (l : List Chg) : LS := if coN q M l = true then apL s L (encL l) else L
def coM (s : DS) (L : LS) (q : Int) (M : List Pr) (l : List Chg) : List Pr := if coN q M l = true ∧ apE s L (encL l) = 0 then doM M l else M
/-- three objects side by side -/
structure Tri (w : World) (gd gl gs : Nat) (oD oL oS : Nat → Prop) (s : DS) (L : LS) (q : Int) (M : List Pr) : Prop where
  d : Dsk w gd oD s
  l : LgW w gl oL gd L
  t : StS w gs gl q (byM M : Int) oS M
  ld : ∀ k, oL k → ¬ oD k
  sd : ∀ k, oS k → ¬ oD k
  sl : ∀ k, oS k → ¬ oL k
/-- what a call leaves of the rest -/
structure Did3 (oD oL oS : Nat → Prop) (w w' : World) (pD pL pS : Nat → Prop) : Prop where
  kept : Kept (fun k => oD k ∨ oL k ∨ oS k) w w'
  n1 : ∀ k, pD k → oD k ∨ (w.heap.size ≤ k ∧ k < w'.heap.size)
  n2 : ∀ k, pL k → oL k ∨ (w.heap.size ≤ k ∧ k < w'.heap.size)
  n3 : ∀ k, pS k → oS k ∨ (w.heap.size ≤ k ∧ k < w'.heap.size)
set_option maxRecDepth 100000 in
theorem Tri.below {w w' : World} {gd gl gs : Nat} {oD oL oS : Nat → Prop} {s : DS} {L : LS} {q : Int} {M : List Pr} (h : Tri w gd gl gs oD oL oS s L q M) (hb : Below w.heap.size w w') : Tri w' gd gl gs oD oL oS s L q M :=
  ⟨h.d.below hb, h.l.below hb, h.t.below hb, h.ld, h.sd, h.sl⟩
set_option maxRecDepth 100000 in
theorem Did3.of_below {oD oL oS : Nat → Prop} {w w' : World} (hb : Below w.heap.size w w') : Did3 oD oL oS w w' oD oL oS := ⟨Kept.of_below hb, fun _ h => .inl h, fun _ h => .inl h, fun _ h => .inl h⟩
/-- the answer's shape -/
def CMP (s : DS) (L : LS) (q : Int) (M : List Pr) (l : List Chg) (gd gl gs : Nat) (oD oL oS : Nat → Prop) (w w' : World) : Prop :=
  ∃ pD pL pS, Tri w' gd gl gs pD pL pS (coS s L q M l) (coL s L q M l) q (coM s L q M l) ∧ Did3 oD oL oS w w' pD pL pS
set_option maxRecDepth 100000 in
theorem CMP.no {s : DS} {L : LS} {q : Int} {M : List Pr} {l : List Chg} {gd gl gs : Nat} {oD oL oS : Nat → Prop} {w w' : World} (h : Tri w gd gl gs oD oL oS s L q M) (hb : Below w.heap.size w w') (hn : coN q M l = false) : CMP s L q M l gd gl gs oD oL oS w w' := by
  refine ⟨oD, oL, oS, ?_, Did3.of_below hb⟩
  have e1 : coS s L q M l = s := by unfold coS; rw [hn]; rfl
  have e2 : coL s L q M l = L := by unfold coL; rw [hn]; rfl
  have e3 : coM s L q M l = M := by unfold coM; rw [hn]; rfl
  rw [e1, e2, e3]; exact h.below hb
set_option maxRecDepth 100000 in
/-- behind the log's own answer -/
theorem CMP.app {s : DS} {L : LS} {q : Int} {M : List Pr} {l : List Chg} {gd gl gs : Nat} {oD oL oS : Nat → Prop} {w w3 w4 : World} (h : Tri w gd gl gs oD oL oS s L q M) (hb : Below w.heap.size w w3) (hA : APP s L (encL l) gl gd oD oL w3 w4) :
    ∃ pD pL, Dsk w4 gd pD (apS s L (encL l)) ∧ LgW w4 gl pL gd (apL s L (encL l)) ∧ StS w4 gs gl q (byM M : Int) oS M ∧ (∀ k, pL k → ¬ pD k) ∧ (∀ k, oS k → ¬ pD k) ∧ (∀ k, oS k → ¬ pL k) ∧ Did3 oD oL oS w w4 pD pL oS ∧ Kept (fun k => oD k ∨ oL k) w3 w4 := by
  obtain ⟨pD, pL, hD, hL, hd⟩ := hA
  have hs := hb.size
  have hs4 := hd.kept.size
  have hlt : ∀ k, oS k → k < w.heap.size := h.t.lt
  refine ⟨pD, pL, hD, hL, (h.t.below hb).kept hd.kept (fun k hk ho => by rcases ho with h1 | h1; exact h.sd k hk h1; exact h.sl k hk h1), hd.dj, fun k hk hp => ?_, fun k hk hp => ?_, ⟨?_, fun k hk => ?_, fun k hk => ?_, fun k hk => .inl hk⟩, hd.kept⟩
  · rcases hd.n1 k hp with h1 | h1
    · exact h.sd k hk h1
    · have := hlt k hk; omega
  · rcases hd.n2 k hp with h1 | h1
    · exact h.sl k hk h1
    · have := hlt k hk; omega
  · exact (Kept.of_below hb).trans hd.kept (fun k hk => .inl (by rcases hk with h1 | h1; exact .inl h1; exact .inr (.inl h1)))
  · rcases hd.n1 k hk with h1 | h1
    · exact .inl h1
    · exact .inr ⟨by omega, h1.2⟩
  · rcases hd.n2 k hk with h1 | h1
    · exact .inl h1
    · exact .inr ⟨by omega, h1.2⟩
set_option maxRecDepth 100000 in
theorem CMP.er {s : DS} {L : LS} {q : Int} {M : List Pr} {l : List Chg} {gd gl gs : Nat} {oD oL oS : Nat → Prop} {w w3 w4 : World} (h : Tri w gd gl gs oD oL oS s L q M) (hb : Below w.heap.size w w3) (hA : APP s L (encL l) gl gd oD oL w3 w4) (hn : coN q M l = true) (he : apE s L (encL l) ≠ 0) : CMP s L q M l gd gl gs oD oL oS w w4 := by
  obtain ⟨pD, pL, h1, h2, h3, h4, h5, h6, h7, _⟩ := CMP.app h hb hA
  refine ⟨pD, pL, oS, ?_, h7⟩
  have e1 : coS s L q M l = apS s L (encL l) := by unfold coS; rw [if_pos hn]
  have e2 : coL s L q M l = apL s L (encL l) := by unfold coL; rw [if_pos hn]
  have e3 : coM s L q M l = M := by unfold coM; rw [if_neg (fun hh => he hh.2)]
  rw [e1, e2, e3]; exact ⟨h1, h2, h3, h4, h5, h6⟩
set_option maxRecDepth 100000 in
theorem CMP.ok {s : DS} {L : LS} {q : Int} {M : List Pr} {l : List Chg} {gd gl gs : Nat} {oD oL oS pD pL pS : Nat → Prop} {w w4 w5 : World} (h1 : Dsk w4 gd pD (apS s L (encL l))) (h2 : LgW w4 gl pL gd (apL s L (encL l))) (h4 : ∀ k, pL k → ¬ pD k) (h5 : ∀ k, oS k → ¬ pD k) (h6 : ∀ k, oS k → ¬ pL k) (h7 : Did3 oD oL oS w w4 pD pL oS)
    (hn : coN q M l = true) (he : apE s L (encL l) = 0) (hok : LOk l) (hM : MOk M) (hS : StS w5 gs gl q ((byM M : Int) + moM M l) pS (doM M l)) (hd : Did oS w4 w5 pS) : CMP s L q M l gd gl gs oD oL oS w w5 := by
  have hs4 := h7.kept.size
  have hs5 := hd.kept.size
  refine ⟨pD, pL, pS, ?_, ⟨h7.kept.trans hd.kept (fun k hk => .inl (.inr (.inr hk))), fun k hk => ?_, fun k hk => ?_, fun k hk => ?_⟩⟩
  · have e1 : coS s L q M l = apS s L (encL l) := by unfold coS; rw [if_pos hn]
    have e2 : coL s L q M l = apL s L (encL l) := by unfold coL; rw [if_pos hn]
    have e3 : coM s L q M l = doM M l := by unfold coM; rw [if_pos ⟨hn, he⟩]
    rw [e1, e2, e3]
    rw [← byM_do hM.nod l hok.p] at hS
    refine ⟨h1.kept hd.kept (fun k hk ho => h5 k ho hk), h2.kept hd.kept (fun k hk ho => h6 k ho hk), hS, h4, fun k hk hp => ?_, fun k hk hp => ?_⟩
    · rcases hd.new k hk with h8 | h8
      · exact h5 k h8 hp
      · have := h1.lt k hp; omega
    · rcases hd.new k hk with h8 | h8
      · exact h6 k h8 hp
      · have := h2.lt k hp; omega
  · rcases h7.n1 k hk with h8 | h8
    · exact .inl h8
    · exact .inr ⟨h8.1, by omega⟩
  · rcases h7.n2 k hk with h8 | h8
    · exact .inl h8
    · exact .inr ⟨h8.1, by omega⟩
  · rcases hd.new k hk with h8 | h8
    · exact .inl h8
    · exact .inr ⟨by omega, h8.2⟩
set_option maxRecDepth 100000 in
theorem coN_bad {q : Int} {M : List Pr} {l : List Chg} (h : chkL l ≠ 0) : coN q M l = false := by unfold coN; simp [h]
set_option maxRecDepth 100000 in
theorem coE_bad {s : DS} {L : LS} {q : Int} {M : List Pr} {l : List Chg} (h : chkL l ≠ 0) : coE s L q M l = chkL l := by unfold coE; rw [if_pos h]
set_option maxRecDepth 100000 in
theorem coE_q {s : DS} {L : LS} {q : Int} {M : List Pr} {l : List Chg} (h : chkL l = 0) (hn : coN q M l = false) : coE s L q M l = 12 := by unfold coE; rw [if_neg (by simp [h]), if_pos hn]
set_option maxRecDepth 100000 in
theorem coE_a {s : DS} {L : LS} {q : Int} {M : List Pr} {l : List Chg} (h : chkL l = 0) (hn : coN q M l = true) : coE s L q M l = apE s L (encL l) := by unfold coE; rw [if_neg (by simp [h]), if_neg (by simp [hn])]
set_option maxRecDepth 100000 in
set_option maxHeartbeats 4000000 in
set_option maxRecDepth 100000 in
theorem commit_any (gd gl gs : Nat) (oD oL oS : Nat → Prop) (s : DS) (L : LS) (q : Int) (M : List Pr) (B : Nat → Prop) (ao : Option Addr) (len cap : Nat) (l : List Chg) (w : World) (hT : Tri w gd gl gs oD oL oS s L q M) (h : CT B w ao len cap l) (hB : ∀ k, B k → ¬ oD k ∧ ¬ oL k ∧ ¬ oS k) (hks : ∀ c ∈ l, c.key.size ≤ 9223372036854775807) (hO : s.O.length ≤ 900000) (hu : byM M ≤ 1000000000000) :
    Calls Tryz.prog 168 #[.pointer (some ⟨gs, 0, none⟩), .slice ao len cap] w fun e w' => e = .returned (.int .i64 (coE s L q M l)) ∧ CMP s L q M l gd gl gs oD oL oS w w' := by
  have HT := Bx.mk hT
  have HL := Bx.mk h
  have HB := Bx.mk hB
  have HKS := Bx.mk hks
  have HLEN : Bx (l.length = len) := ⟨h.len_eq⟩
  have H0 := Bx.mk hT.t.c0
  have hcm := Nat.le_trans h.le_cap h.cap_le
  unfold maxLen at hcm
  clear hT h hB hks
  go_enter Tryz.func168, Tryz.ntmps168
  go_wp2_with fail
  refine (smade_yes gs gl _ H0.out).mono ?_
  rintro e w1 ⟨rfl, rfl⟩
  go_wp2_with fail
  refine (encode_any B ao len cap l _ HL.out HKS.out).mono ?_
  rintro e w2 ⟨v2, rfl, hown2, hb2⟩
  by_cases hY : chkL l = 0
  · have HOK := Bx.mk (chkL_ok hY)
    have HER : Bx (encR l = encL l) := ⟨by unfold encR; rw [if_pos hY]⟩
    have hlen : len ≤ 16 := by have := HOK.out.n2; rw [HLEN.out] at this; exact this
    rw [HER.out] at hown2
    have HEB : Byt (encL l) := by
      unfold encL
      refine Byt.append (varL_byt _ (by omega) (by have := HOK.out.n2; omega)) (flatC_byt fun c hc => ?_)
      obtain ⟨i, hi, e⟩ := List.getElem_of_mem hc
      obtain ⟨_, _, ai, ni, ci, _, _, _, _, _, _, hbt, _⟩ := HL.out.chg i (by rw [← HLEN.out]; exact hi)
      rw [e] at hbt
      have h1 := hbt.len_eq
      have h2 := Nat.le_trans hbt.le_cap hbt.cap_le
      unfold maxLen at h2
      have h3 := HKS.out c hc
      exact ⟨hbt.byt, by omega, by omega⟩
    obtain ⟨a2, c2, rfl, hm2⟩ := Bts.of_owns hown2 HEB
    have HM2 := Bx.mk hm2
    have HN2 : Bx (∀ p, a2 = some p → w.heap.size ≤ p.block) := ⟨fun p e => (own_ge hown2 p e).1⟩
    have HB2 := Bx.mk hb2
    have HYY : Bx (chkL l = 0) := ⟨hY⟩
    rw [hY]
    have hmb := moP_bd HT.out.t.mo HOK.out.c len (by omega)
    rw [moP_all M l len (by rw [HLEN.out]; exact Nat.le_refl _)] at hmb
    clear hown2 hm2 hb2 hY HEB
    go_wp2_with fail
    refine (more_any gs gl q _ oS M B ao len cap l _ (HT.out.t.below HB2.out) (HL.out.below HB2.out) HOK.out.c hlen).mono ?_
    rintro e w3 ⟨rfl, hb3⟩
    have HB3 : Bx (Below w.heap.size w w3) := ⟨bstep HB2.out hb3⟩
    have HM3 : Bx (Bts w3 a2 (encL l).length c2 (encL l)) := ⟨HM2.out.below hb3⟩
    have d3 := (HT.out.t.below HB3.out).c3
    have d1 := (HT.out.t.below HB3.out).c1
    have hw : IntKind.i64.wrap ((byM M : Int) + moM M l) = (byM M : Int) + moM M l := by rw [IntWalk.i64_in _ (by omega)]
    have HCN : Bx (coN q M l = !(decide (0 < moM M l) && decide (q < (byM M : Int) + moM M l))) := ⟨by unfold coN; simp [HYY.out]⟩
    obtain ⟨mo, HMO⟩ : ∃ mo, Bx (moM M l = mo) := ⟨_, ⟨rfl⟩⟩
    rw [HMO.out] at hw hmb HCN ⊢
    clear hb3 HM2
    by_cases hq : 0 < mo ∧ q < (byM M : Int) + mo
    · have HN : Bx (coN q M l = false) := ⟨by rw [HCN.out]; simp [hq.1, hq.2]⟩
      have g1 : decide (mo > 0) = true := by simp; omega
      have g2 : decide ((byM M : Int) + mo > q) = true := by simp; omega
      have HF : Bx (∀ k, CMP s L q M l gd gl gs oD oL oS w (w3.drewN k)) := ⟨fun k => CMP.no HT.out (below_drewN HB3.out k) HN.out⟩
      clear hq
      go_wp2_with fail
      go_quiet (fail)
      have hf := Bx.mk (HF.out nq)
      go_wp2_with fail
      go_ret
      exact ⟨ret_int (coE_q HYY.out HN.out).symm, hf.out⟩
    · have HN : Bx (coN q M l = true) := ⟨by rw [HCN.out]; simp; omega⟩
      by_cases hmz : 0 < mo
      · have g1 : decide (mo > 0) = true := by simp; omega
        have g2 : decide ((byM M : Int) + mo > q) = false := by simp; omega
        clear hq
        go_wp2_with fail
        go_quiet (fail)
        have HBQ : Bx (Below w.heap.size w (w3.drewN nq)) := ⟨below_drewN HB3.out nq⟩
        have HMQ : Bx (Bts (w3.drewN nq) a2 (encL l).length c2 (encL l)) := ⟨HM3.out.drewN nq⟩
        have e0 : (w3.drewN nq).cell? ⟨gs, 0, none⟩ = some (.pointer (some ⟨gl, 0, none⟩)) := (HT.out.t.below HBQ.out).c0
        generalize w3.drewN nq = wq at HBQ HMQ e0 ⊢
        clear g1
        go_wp2_with fail
        refine (append_any gl gd oD oL s L a2 _ c2 (encL l) _ (HT.out.d.below HBQ.out) (HT.out.l.below HBQ.out) HMQ.out (fun hp p e ho => by have h1 := HN2.out p e; have h2 := HT.out.d.lt _ ho; omega) HT.out.ld hO).mono ?_
        rintro e w4 ⟨rfl, hA⟩
        by_cases hE : apE s L (encL l) = 0
        · obtain ⟨pD, pL, h1, h2, h3, h4, h5, h6, h7, hk4⟩ := CMP.app HT.out HBQ.out hA
          have HALL := Bx.mk (And.intro h1 (And.intro h2 (And.intro h4 (And.intro h5 (And.intro h6 h7)))))
          have HS4 := Bx.mk h3
          have HL4 : Bx (CT B w4 ao len cap l) := ⟨(HL.out.below HBQ.out).kept hk4 (fun k hk ho => by rcases ho with h8 | h8; exact (HB.out k hk).1 h8; exact (HB.out k hk).2.1 h8)⟩
          have HEE : Bx (apE s L (encL l) = 0) := ⟨hE⟩
          rw [hE]
          clear hE hA h1 h2 h3 h4 h5 h6 h7 hk4
          go_wp2_with fail
          refine (do_anyS gs gl q _ oS M B ao len cap l _ HS4.out HL4.out (fun k hk => (HB.out k hk).2.2) HOK.out.c hlen (by omega) (by omega)).mono ?_
          rintro e w5 ⟨rfl, pS, hS5, hd5⟩
          have HF := Bx.mk (CMP.ok HALL.out.1 HALL.out.2.1 HALL.out.2.2.1 HALL.out.2.2.2.1 HALL.out.2.2.2.2.1 HALL.out.2.2.2.2.2 HN.out HEE.out HOK.out HT.out.t.mo hS5 hd5)
          clear hS5 hd5
          go_wp2_with fail
          go_ret
          exact ⟨ret_int (by rw [coE_a HYY.out HN.out, HEE.out]), HF.out⟩
        · have HF := Bx.mk (CMP.er HT.out HBQ.out hA HN.out hE)
          have g5 : (apE s L (encL l) != 0) = true := by simp [hE]
          have HEE : Bx (coE s L q M l = apE s L (encL l)) := ⟨coE_a HYY.out HN.out⟩
          obtain ⟨Y, HYE⟩ : ∃ Y, Bx (apE s L (encL l) = Y) := ⟨_, ⟨rfl⟩⟩
          rw [HYE.out] at g5 ⊢
          clear hE hA
          go_wp2_with fail
          go_ret
          exact ⟨ret_int (by rw [HEE.out, HYE.out]), HF.out⟩
      · have g1 : decide (mo > 0) = false := by simp; omega
        clear hq
        go_wp2_with fail
        go_quiet (fail)
        have HBQ : Bx (Below w.heap.size w (w3.drewN nq)) := ⟨below_drewN HB3.out nq⟩
        have HMQ : Bx (Bts (w3.drewN nq) a2 (encL l).length c2 (encL l)) := ⟨HM3.out.drewN nq⟩
        have e0 : (w3.drewN nq).cell? ⟨gs, 0, none⟩ = some (.pointer (some ⟨gl, 0, none⟩)) := (HT.out.t.below HBQ.out).c0
        generalize w3.drewN nq = wq at HBQ HMQ e0 ⊢
        clear g1
        go_wp2_with fail
        refine (append_any gl gd oD oL s L a2 _ c2 (encL l) _ (HT.out.d.below HBQ.out) (HT.out.l.below HBQ.out) HMQ.out (fun hp p e ho => by have h1 := HN2.out p e; have h2 := HT.out.d.lt _ ho; omega) HT.out.ld hO).mono ?_
        rintro e w4 ⟨rfl, hA⟩
        by_cases hE : apE s L (encL l) = 0
        · obtain ⟨pD, pL, h1, h2, h3, h4, h5, h6, h7, hk4⟩ := CMP.app HT.out HBQ.out hA
          have HALL := Bx.mk (And.intro h1 (And.intro h2 (And.intro h4 (And.intro h5 (And.intro h6 h7)))))
          have HS4 := Bx.mk h3
          have HL4 : Bx (CT B w4 ao len cap l) := ⟨(HL.out.below HBQ.out).kept hk4 (fun k hk ho => by rcases ho with h8 | h8; exact (HB.out k hk).1 h8; exact (HB.out k hk).2.1 h8)⟩
          have HEE : Bx (apE s L (encL l) = 0) := ⟨hE⟩
          rw [hE]
          clear hE hA h1 h2 h3 h4 h5 h6 h7 hk4
          go_wp2_with fail
          refine (do_anyS gs gl q _ oS M B ao len cap l _ HS4.out HL4.out (fun k hk => (HB.out k hk).2.2) HOK.out.c hlen (by omega) (by omega)).mono ?_
          rintro e w5 ⟨rfl, pS, hS5, hd5⟩
          have HF := Bx.mk (CMP.ok HALL.out.1 HALL.out.2.1 HALL.out.2.2.1 HALL.out.2.2.2.1 HALL.out.2.2.2.2.1 HALL.out.2.2.2.2.2 HN.out HEE.out HOK.out HT.out.t.mo hS5 hd5)
          clear hS5 hd5
          go_wp2_with fail
          go_ret
          exact ⟨ret_int (by rw [coE_a HYY.out HN.out, HEE.out]), HF.out⟩
        · have HF := Bx.mk (CMP.er HT.out HBQ.out hA HN.out hE)
          have g5 : (apE s L (encL l) != 0) = true := by simp [hE]
          have HEE : Bx (coE s L q M l = apE s L (encL l)) := ⟨coE_a HYY.out HN.out⟩
          obtain ⟨Y, HYE⟩ : ∃ Y, Bx (apE s L (encL l) = Y) := ⟨_, ⟨rfl⟩⟩
          rw [HYE.out] at g5 ⊢
          clear hE hA
          go_wp2_with fail
          go_ret
          exact ⟨ret_int (by rw [HEE.out, HYE.out]), HF.out⟩
  · have HN : Bx (coN q M l = false) := ⟨coN_bad hY⟩
    have HE : Bx (coE s L q M l = chkL l) := ⟨coE_bad hY⟩
    have g2 : (chkL l != 0) = true := by simp [hY]
    have HF := Bx.mk (CMP.no (l := l) HT.out hb2 HN.out)
    obtain ⟨a2, n2, c2, rfl⟩ := own_form hown2
    obtain ⟨Y, HYY⟩ : ∃ Y, Bx (chkL l = Y) := ⟨_, ⟨rfl⟩⟩
    rw [HYY.out] at g2 ⊢
    clear hY hown2
    go_wp2_with fail
    go_ret
    exact ⟨ret_int (by rw [HE.out, HYY.out]), HF.out⟩
end Go.Proofs.YtipakjenggeflaaGreatDoor
namespace Go.Proofs.YtipakjenggeflaaGreatDoor
open Go.RowKit
set_option linter.unusedVariables false

set_option maxRecDepth 100000 in
theorem encL_byt {l : List Chg} (h : LOk l) (hb : ∀ c ∈ l, Byt c.val) : Byt (encL l) := by
  unfold encL
  refine Byt.append (varL_byt _ (by omega) (by have := h.n2; omega)) (flatC_byt fun c hc => ⟨hb c hc, ?_, ?_⟩)
  · have := (h.c c hc).v; omega
  · have := (h.c c hc).k2; omega
end Go.Proofs.YtipakjenggeflaaGreatDoor
namespace Go.Proofs.YtipakjenggeflaaGreatDoor
open Go.RowKit
set_option linter.unusedVariables false

set_option maxRecDepth 100000 in
theorem mkM_step {T : List (List Int)} {k : Nat} (h : k < T.length) {l : List Chg} (hd : decL T[k] = some l) : mkM (T.take (k + 1)) = doM (mkM (T.take k)) l := by
  unfold mkM
  rw [List.take_succ_eq_append_getElem h, List.foldl_append]
  simp [bkM, hd]
set_option maxRecDepth 100000 in
theorem mkM_length : ∀ (T : List (List Int)) (M : List Pr), (∀ b ∈ T, Byt b) → (T.foldl bkM M).length ≤ M.length + 16 * T.length
  | [], M, _ => by simp
  | b :: t, M, hb => by
    have h1 := mkM_length t (bkM M b) (fun x hx => hb x (by simp [hx]))
    have h2 : (bkM M b).length ≤ M.length + 16 := by
      unfold bkM
      cases e : decL b with
      | none => simp
      | some l =>
        have h3 := doM_length M l
        have h4 := (chkL_ok (dec_back (hb b (by simp)) e).2.1).n2
        simp only
        omega
    rw [List.foldl_cons, List.length_cons]
    omega
set_option maxRecDepth 100000 in
theorem mkM_ok : ∀ (T : List (List Int)) (M : List Pr), MOk M → (∀ b ∈ T, Byt b) → MOk (T.foldl bkM M)
  | [], M, h, _ => h
  | b :: t, M, h, hb => by
    rw [List.foldl_cons]
    refine mkM_ok t _ ?_ (fun x hx => hb x (by simp [hx]))
    unfold bkM
    cases e : decL b with
    | none => exact h
    | some l => exact h.doM (chkL_ok (dec_back (hb b (by simp)) e).2.1).c
set_option maxRecDepth 100000 in
theorem mkM_by {T : List (List Int)} (hT : ∀ b ∈ T, Byt b) (hn : T.length ≤ 4096) : byM (mkM T) ≤ 300000000 := by
  have h1 := byM_le (mkM_ok T [] MOk.nil hT)
  have h2 := mkM_length T [] hT
  have h3 : byM (mkM T) ≤ 4136 * (mkM T).length := h1
  have h4 : (mkM T).length ≤ ([] : List Pr).length + 16 * T.length := h2
  rw [List.length_nil] at h4
  omega
set_option maxRecDepth 100000 in
theorem tdec_not {T : List (List Int)} {k : Nat} (h : k < T.length) (hd : decL T[k] = none) : ¬ TDec T := fun ht => by
  have := ht _ (List.getElem_mem h)
  rw [hd] at this; cases this
set_option maxRecDepth 100000 in
theorem tdec_all {T : List (List Int)} {k : Nat} (hk : T.length ≤ k) (h : ∀ j x, T[j]? = some x → j < k → (decL x).isSome = true) : TDec T := fun b hb => by
  obtain ⟨i, hi, e⟩ := List.getElem_of_mem hb
  exact h i b (by rw [List.getElem?_eq_getElem hi, e]) (by omega)
/-- what Open answers of a log that is -/
def SOP (s : DS) (T : List (List Int)) (p : Nat) (q : Int) (g : Nat) (own : Nat → Prop) (w : World) (e : Ending) (w' : World) : Prop :=
  (TDec T ∧ ∃ gs gl oD oL oS, e = .returned (.tuple #[.pointer (some ⟨gs, 0, none⟩), .int .i64 0]) ∧ Tri w' g gl gs oD oL oS (s.wipS p) ⟨T, p, false⟩ q (mkM T) ∧ Did own w w' oD ∧ (∀ k, oL k → w.heap.size ≤ k) ∧ (∀ k, oS k → w.heap.size ≤ k)) ∨
  (¬ TDec T ∧ e = .returned (.tuple #[.pointer none, .int .i64 4]) ∧ ∃ own', Dsk w' g own' (s.wipS p) ∧ Did own w w' own')
set_option maxRecDepth 100000 in
set_option maxHeartbeats 400000 in
theorem sopen_no (p : Option Addr) (q : Int) (w : World) (hq : ¬ q < 0) (h : NoD w p) :
    Calls Tryz.prog 39 #[.pointer p, .int .i64 q] w fun e w' => e = .returned (.tuple #[.pointer none, .int .i64 1]) ∧ w = w' := by
  have H := Bx.mk h
  clear h
  go_enter Tryz.func39, Tryz.ntmps39
  go_wp2_with fail
  refine (wopen_no p _ H.out).mono ?_
  rintro e w1 ⟨rfl, rfl⟩
  go_wp2
  go_ret2
  exact ⟨rfl, rfl⟩
/-- a store that is being opened -/
structure OpS (w2 wk : World) (N1 N2 gs gl : Nat) (q : Int) (oS : Nat → Prop) (M : List Pr) (vT : Value) (T : List (List Int)) : Prop where
  st : StS wk gs gl q (byM M : Int) oS M
  ge : ∀ k, oS k → w2.heap.size ≤ k ∧ ¬ (N1 ≤ k ∧ k < N2)
  low : Below w2.heap.size w2 wk
  tl : TL wk (fun k => N1 ≤ k ∧ k < N2) vT T
  n1 : w2.heap.size ≤ N1
  n2 : N2 ≤ wk.heap.size
set_option maxRecDepth 100000 in
theorem OpS.below {w2 wk wk' : World} {N1 N2 gs gl : Nat} {q : Int} {oS : Nat → Prop} {M : List Pr} {vT : Value} {T : List (List Int)} (h : OpS w2 wk N1 N2 gs gl q oS M vT T) (hb : Below wk.heap.size wk wk') : OpS w2 wk' N1 N2 gs gl q oS M vT T :=
  ⟨h.st.below hb, h.ge, bstep h.low hb, h.tl.below hb, h.n1, Nat.le_trans h.n2 hb.size⟩
set_option maxRecDepth 100000 in
theorem OpS.did {w2 wk wk' : World} {N1 N2 gs gl : Nat} {q us : Int} {oS oS' : Nat → Prop} {M M' : List Pr} {vT : Value} {T : List (List Int)} (h : OpS w2 wk N1 N2 gs gl q oS M vT T) (hS : StS wk' gs gl q us oS' M') (hu : us = (byM M' : Int)) (hd : Did oS wk wk' oS') : OpS w2 wk' N1 N2 gs gl q oS' M' vT T := by
  have hn2 := h.n2
  have hls := h.low.size
  refine ⟨by rw [← hu]; exact hS, fun k hk => ?_, h.low.trans (hd.kept.low (fun k hk => (h.ge k hk).1) hls), h.tl.kept hd.kept (fun k hk ho => (h.ge k ho).2 hk), h.n1, Nat.le_trans h.n2 hd.kept.size⟩
  rcases hd.new k hk with h1 | h1
  · exact h.ge k h1
  · exact ⟨by omega, fun h2 => by omega⟩
set_option maxRecDepth 100000 in
set_option maxHeartbeats 4000000 in
set_option maxRecDepth 100000 in
theorem sopen_ok (g : Nat) (own : Nat → Prop) (s : DS) (q : Int) (w : World) (T : List (List Int)) (p : Nat) (hq : ¬ q < 0) (hD : Dsk w g own s) (hoff : s.off = false) (hr : rdFW s.now = some (T, p)) (hO : s.O.length ≤ 900000) (hE : s.wipE p = 0) :
    Calls Tryz.prog 39 #[.pointer (some ⟨g, 0, none⟩), .int .i64 q] w fun e w' => SOP s T p q g own w e w' := by
  have HC := Bx.mk (wopen_ok g own s w T p hD hoff hr hO hE)
  clear hD hr hE hoff
  go_enter Tryz.func39, Tryz.ntmps39
  go_wp2_with fail
  refine HC.out.mono ?_
  rintro e w2 ⟨gl, rfl, oD, oL, hD2, hd2, hL2, hlg, hld⟩
  have HD2 := Bx.mk hD2
  have HDI := Bx.mk hd2
  have HL2 := Bx.mk hL2
  have HGE := Bx.mk (And.intro hlg hld)
  have HTOK : Bx (TOkW T) := ⟨by obtain ⟨vt, hh⟩ := hL2; exact hh.ok⟩
  have hTn : T.length ≤ 4096 := by obtain ⟨vt, hh⟩ := hL2; exact Nat.le_trans hh.tn hh.n2
  have hmm := @run_makeMap Tryz.prog
  clear hD2 hd2 hL2 hlg hld HC
  have HST0 : Bx (StS ((w2.alloc (.map #[] 0)).alloc (.cells #[.pointer (some ⟨gl, 0, none⟩), .int .i64 q, .map (some w2.heap.size), .int .i64 0] 129)) (w2.heap.size + 1) gl q ((byM [] : Nat) : Int) (fun k => k = w2.heap.size ∨ k = w2.heap.size + 1) []) := ⟨w2.heap.size, #[], 0, [], by
    have hsz : (w2.alloc (.map #[] 0)).heap.size = w2.heap.size + 1 := by simp
    have hn := heap_alloc_new (w2.alloc (.map #[] 0)) (.cells #[.pointer (some ⟨gl, 0, none⟩), .int .i64 q, .map (some w2.heap.size), .int .i64 0] 129)
    rw [hsz] at hn
    refine ⟨hn, ?_, EZ.nil, rfl, by simp, .inr rfl, .inl rfl, by omega, fun k hk => by simp; omega, MOk.nil⟩
    exact (heap_alloc_old _ _ (by rw [hsz]; omega)).trans (heap_alloc_new w2 _)⟩
  have HBS : Bx (Below w2.heap.size w2 ((w2.alloc (.map #[] 0)).alloc (.cells #[.pointer (some ⟨gl, 0, none⟩), .int .i64 q, .map (some w2.heap.size), .int .i64 0] 129))) := ⟨((Below.refl _ _).alloc (Nat.le_refl _) _).alloc (by simp) _⟩
  have HSZ3 : Bx (((w2.alloc (.map #[] 0)).alloc (.cells #[.pointer (some ⟨gl, 0, none⟩), .int .i64 q, .map (some w2.heap.size), .int .i64 0] 129)).heap.size = w2.heap.size + 2) := ⟨by simp⟩
  go_wp2_with fail
  obtain ⟨gs, HGS⟩ : ∃ gs, Bx (gs = w2.heap.size + 1) := ⟨_, ⟨rfl⟩⟩
  rw [← HGS.out] at HST0 ⊢
  generalize (w2.alloc (.map #[] 0)).alloc (.cells #[.pointer (some ⟨gl, 0, none⟩), .int .i64 q, .map (some w2.heap.size), .int .i64 0] 129) = w3 at HST0 HBS HSZ3 ⊢
  refine (texts_any gl g oL ⟨T, p, false⟩ _ (HL2.out.below HBS.out)).mono ?_
  rintro e w4 ⟨v4, rfl, hT4', hb4⟩
  have hT4 : TL w4 (fun k => w3.heap.size ≤ k ∧ k < w4.heap.size) v4 T := hT4'
  clear hT4'
  obtain ⟨aT, cT, rfl, hcTm⟩ := hT4.form
  have hs4 := hb4.size
  have HO4 : Bx (OpS w2 w4 w3.heap.size w4.heap.size gs gl q (fun k => k = w2.heap.size ∨ k = gs) (mkM (T.take 0)) (.slice aT T.length cT) T ∧ ∀ j x, T[j]? = some x → j < 0 → (decL x).isSome = true) := ⟨⟨HST0.out.below hb4, fun k hk => by
    have h1 := HSZ3.out
    have h2 := HGS.out
    rcases hk with h3 | h3
    · exact ⟨by omega, fun h4 => by omega⟩
    · exact ⟨by omega, fun h4 => by omega⟩, bstep HBS.out hb4, hT4, by have := HSZ3.out; omega, Nat.le_refl _⟩, fun j x hj h0 => by omega⟩
  obtain ⟨n, HNL⟩ : ∃ n, Bx (n = T.length) := ⟨_, ⟨rfl⟩⟩
  unfold maxLen at hcTm
  rw [← HNL.out] at HO4 hTn ⊢
  clear HST0 HBS hT4 hb4 hmm HSZ3 hs4
  generalize w3.heap.size = N1 at HO4
  generalize w4.heap.size = N2 at HO4
  have hst : ∃ (k : Nat) (oS : Nat → Prop), k ≤ n ∧ (0 : Int) = k ∧ Bx (OpS w2 w4 N1 N2 gs gl q oS (mkM (T.take k)) (.slice aT n cT) T ∧ ∀ j x, T[j]? = some x → j < k → (decL x).isSome = true) := ⟨0, _, Nat.zero_le _, rfl, HO4⟩
  clear HO4
  go_wp2_with fail
  go_loopw [31] (fun i wr => ∃ (k : Nat) (oS : Nat → Prop), k ≤ n ∧ i = .int .i64 k ∧ Bx (OpS w2 wr N1 N2 gs gl q oS (mkM (T.take k)) (.slice aT n cT) T ∧ ∀ j x, T[j]? = some x → j < k → (decL x).isSome = true)) (fun i _ => n - (intOf i).toNat)
  case atStart =>
    obtain ⟨k, oS, h1, h2, h3⟩ := hst
    exact ⟨k, oS, h1, by rw [h2], h3⟩
  case round =>
    clear hst
    obtain ⟨k, oS, hk, rfl, HOS⟩ := hrel
    by_cases hlt : k < n
    · have hkI : (k : Int) < (n : Int) := by omega
      have hkT : k < T.length := by rw [← HNL.out]; exact hlt
      obtain ⟨a9, c9, e9, hTx⟩ := HOS.out.1.tl.txs
      obtain ⟨rfl, rfl⟩ : aT = a9 ∧ cT = c9 := by cases e9; exact ⟨rfl, rfl⟩
      obtain ⟨b, off, rfl, _, hc⟩ := hTx.spot (by omega)
      obtain ⟨ai, li, ci, hcell, hbt⟩ := hc k hkT
      have hgd : T.getD k [] = T[k] := by rw [List.getD_eq_getElem?_getD, List.getElem?_eq_getElem hkT]; rfl
      rw [hgd] at hbt
      have hli : li ≤ 16384 := by rw [← hbt.len_eq]; exact (HTOK.out _ (List.getElem_mem hkT)).1
      have HBT := Bx.mk hbt
      have HBYT : Bx (∀ x ∈ T.take k, Byt x) := ⟨fun x hx => (HTOK.out x (List.mem_of_mem_take hx)).2⟩
      clear hTx hc hgd hbt e9
      go_wp2_with fail
      refine (decode_anyS ai li ci T[k] _ HBT.out (by omega)).mono ?_
      rintro e w5 ⟨hb5, hres⟩
      rcases hres with ⟨hdn, rfl⟩ | ⟨l, v5, hds, rfl, hCL⟩
      · have HF : Bx (SOP s T p q g own w (.returned (.tuple #[.pointer none, .int .i64 4])) w5) := by
          have hlow5 := bstep HOS.out.1.low hb5
          exact ⟨.inr ⟨tdec_not hkT hdn, rfl, oD, HD2.out.below hlow5, HDI.out.below hlow5⟩⟩
        clear hdn hb5 HOS
        go_wp2_with fail
        go_ret2
        exact HF.out
      · have HOS5 := Bx.mk (HOS.out.1.below hb5)
        have HDC := Bx.mk (And.intro HOS.out.2 hds)
        have HLO := Bx.mk (chkL_ok (dec_back HBT.out.byt hds).2.1)
        have HCB : Bx (CLS w5 (fun j => wr.heap.size ≤ j ∧ j < w5.heap.size) v5 l) := ⟨hCL⟩
        have HLT : Bx (∀ j, oS j → j < wr.heap.size) := ⟨HOS.out.1.st.lt⟩
        obtain ⟨a5, c5, rfl, hCT⟩ := hCL.rt chE_len
        have HCT := Bx.mk hCT
        have hl16 := HLO.out.n2
        have hby : byM (mkM (T.take k)) ≤ 300000000 := mkM_by HBYT.out (by rw [List.length_take]; omega)
        have HMS : Bx (mkM (T.take (k + 1)) = doM (mkM (T.take k)) l) := ⟨mkM_step hkT hds⟩
        have HMO : Bx (MOk (mkM (T.take k))) := ⟨mkM_ok _ [] MOk.nil HBYT.out⟩
        clear hCL hCT hds hb5 HOS hcell
        go_wp2_with fail
        refine (do_anyS gs gl q _ oS _ _ a5 l.length c5 l _ HOS5.out.st HCT.out (fun j hj ho => by have := HLT.out j ho; omega) HLO.out.c (by omega) (by omega) (by omega)).mono ?_
        rintro e w6 ⟨rfl, oS6, hS6, hd6⟩
        have HO6 : Bx (OpS w2 w6 N1 N2 gs gl q oS6 (mkM (T.take (k + 1))) (.slice (some ⟨b, off, none⟩) n cT) T ∧ ∀ j x, T[j]? = some x → j < k + 1 → (decL x).isSome = true) := by
          refine ⟨by rw [HMS.out]; exact HOS5.out.did hS6 (byM_do HMO.out.nod l HLO.out.p).symm hd6, fun j x hj hjk => ?_⟩
          by_cases ej : j = k
          · subst ej
            rw [List.getElem?_eq_getElem hkT] at hj
            cases hj
            rw [HDC.out.2]; rfl
          · exact HDC.out.1 j x hj (by omega)
        clear hS6 hd6 HOS5 HDC HCT HCB HLT
        go_wp2_with fail
        go_roundw
        case rel => exact ⟨k + 1, oS6, by omega, by go_num, HO6⟩
        case measure => simp [intOf]; omega
    · have hkI : ¬ (k : Int) < (n : Int) := by omega
      have HF : Bx (SOP s T p q g own w (.returned (.tuple #[.pointer (some ⟨gs, 0, none⟩), .int .i64 0])) wr) := by
        have hall : T.take k = T := List.take_of_length_le (by rw [← HNL.out]; omega)
        have hO := HOS.out.1
        rw [hall] at hO
        refine ⟨.inl ⟨tdec_all (by rw [← HNL.out]; omega) HOS.out.2, gs, gl, oD, oL, oS, rfl, ⟨HD2.out.below hO.low, HL2.out.below hO.low, hO.st, HGE.out.2, fun j hj ho => ?_, fun j hj ho => ?_⟩, HDI.out.below hO.low, HGE.out.1, fun j hj => ?_⟩⟩
        · have h1 := HD2.out.lt j ho; have h2 := (hO.ge j hj).1; omega
        · have h1 := HL2.out.lt j ho; have h2 := (hO.ge j hj).1; omega
        · have h1 := HDI.out.kept.size; have h2 := (hO.ge j hj).1; omega
      clear HOS
      go_wp2_with fail
      go_ret2
      exact HF.out
end Go.Proofs.YtipakjenggeflaaGreatDoor
namespace Go.Proofs.YtipakjenggeflaaGreatDoor
open Go.RowKit
set_option linter.unusedVariables false

set_option maxRecDepth 100000 in
theorem Tryz.infoP : (Tryz.prog.info? 150).map (fun i => (i.zero, i.size, i.bytes)) = some (some (.agg #[.string ⟨#[]⟩, .slice none 0 0]), 2, 40) := by kernel_rfl
set_option maxRecDepth 100000 in
theorem bless_eq : ∀ (x y : List UInt8), Op.bytesLess x y = decide (x < y)
  | x, [] => by simp [Op.bytesLess]
  | [], b :: y => by simp [Op.bytesLess]
  | a :: x, b :: y => by simp [Op.bytesLess, bless_eq x y, List.cons_lt_cons_iff]; rfl
set_option maxRecDepth 100000 in
theorem bless (a b : ByteArray) : Op.bytesLess a.toList b.toList = decide (klt a b) := by rw [Lib.toList_data, Lib.toList_data, bless_eq]
set_option maxRecDepth 100000 in
theorem beql (a b : ByteArray) : (a.toList == b.toList) = decide (a = b) := by
  rw [Lib.toList_data, Lib.toList_data]
  by_cases h : a = b
  · rw [h]; simp
  · rw [decide_eq_false h]
    exact beq_eq_false_iff_ne.2 fun e => h (key_eq e)
set_option maxRecDepth 100000 in
/-- 'a > b' -/
theorem bgtr (a b : ByteArray) : (!(Op.bytesLess a.toList b.toList || a.toList == b.toList)) = decide (klt b a) := by
  rw [bless, beql]
  by_cases h1 : klt b a
  · rw [decide_eq_true h1, decide_eq_false (klt_asymm h1), decide_eq_false (fun e => klt_ne h1 e.symm)]; rfl
  · rw [decide_eq_false h1]
    by_cases h2 : klt a b
    · rw [decide_eq_true h2]; rfl
    · have h3 : a = b := Decidable.byContradiction fun hn => h1 (klt_tri h2 hn)
      rw [decide_eq_true h3]; simp
set_option maxRecDepth 100000 in
theorem gtM_len {M : List Pr} (hm : MOk M) (k : ByteArray) : ((gtM M k).getD []).length ≤ 4096 := by
  cases h : gtM M k with
  | none => simp
  | some v =>
    have h1 := gtM_mem h
    exact hm.v _ h1
set_option maxRecDepth 100000 in
set_option maxHeartbeats 1000000 in
theorem get_any (gs gl : Nat) (q us : Int) (own : Nat → Prop) (M : List Pr) (k : ByteArray) (w : World) (h : StS w gs gl q us own M) :
    Calls Tryz.prog 57 #[.pointer (some ⟨gs, 0, none⟩), .string k] w fun e w' => ∃ v, e = .returned (.tuple #[v, .bool (gtM M k).isSome]) ∧ w'.ownsRow w.heap.size 5 1 v ((gtM M k).getD []).length (bv ((gtM M k).getD [])) ∧ Below w.heap.size w w' := by
  obtain ⟨gm, es, clock, Z, hr⟩ := h
  have H0 := Bx.mk hr.c0
  have c2 := hr.c2
  obtain ⟨a, n, c, b, hlk, hbt, hbb⟩ := hr.look k
  have hlen := gtM_len hr.mo k
  have HLE : Bx (((gtM M k).getD []).length = n) := ⟨hbt.len_eq⟩
  have HBT := Bx.mk hbt
  have HBB := Bx.mk hbb
  clear hr hbt hbb
  rw [HLE.out] at hlen
  go_enter Tryz.func57, Tryz.ntmps57
  go_wp2_with fail
  refine (smade_yes gs gl _ H0.out).mono ?_
  rintro e w' ⟨rfl, rfl⟩
  go_wp2_with fail
  refine (clone_any a n c _ _ HBT.out (by omega)).mono ?_
  rintro e w' ⟨v, rfl, hown, hb⟩
  have HF : Bx (w'.ownsRow w.heap.size 5 1 v ((gtM M k).getD []).length (bv ((gtM M k).getD []))) := ⟨by rw [HLE.out]; exact hown⟩
  obtain ⟨a9, n9, c9, rfl⟩ := own_form hown
  clear hown hlk
  go_wp2_with fail
  exact bodyPost_ret (v := .tuple #[.slice a9 n9 c9, .bool b]) (by simp [results, Tryz.results57, go_sem]) rfl ⟨_, by rw [HBB.out], HF.out, hb⟩
set_option maxRecDepth 100000 in
/-- a pair of a list -/
theorem RT.pr {B : Nat → Prop} {w : World} {ao : Option Addr} {len cap : Nat} {L : List Pr} (h : PT B w ao len cap L) (i : Nat) (hi : i < len) : ∃ b off ai ni ci, ao = some ⟨b, off, none⟩ ∧ b < w.heap.size ∧ B b ∧
    w.cell? ⟨b, off + i * 2, none⟩ = some (.string (L[i]'(by rw [h.len_eq]; exact hi)).1) ∧ w.cell? ⟨b, off + i * 2 + 1, none⟩ = some (.slice ai ni ci) ∧
    Bts w ai ni ci (L[i]'(by rw [h.len_eq]; exact hi)).2 ∧ (0 < ni → ∀ p, ai = some p → B p.block) := by
  obtain ⟨b, off, e, hlt, hB, hc⟩ := h.spot (by omega)
  obtain ⟨z, h1, h2, h3, h4⟩ := hc i hi
  have hi2 : i < L.length := by rw [h.len_eq]; exact hi
  have e1 : L[i] = z.x := by rw [List.getElem?_eq_getElem hi2] at h1; exact Option.some.inj h1
  refine ⟨b, off, z.a, z.n, z.c, e, hlt, hB, ?_, ?_, ?_, h4⟩
  · rw [e1]; exact h2 0 (by omega)
  · exact h2 1 (by omega)
  · rw [e1]; exact h3
set_option maxRecDepth 100000 in
set_option maxHeartbeats 4000000 in
set_option maxRecDepth 100000 in
theorem copied_any (ao : Option Addr) (len cap : Nat) (B : Nat → Prop) (L : List Pr) (w : World) (h : PT B w ao len cap L) (hvs : ∀ p ∈ L, p.2.length ≤ 4200) (hle : len ≤ 1000000) :
    Calls Tryz.prog 155 #[.slice ao len cap] w fun e w' => ∃ v, e = .returned v ∧ PL w' (fun k => w.heap.size ≤ k ∧ k < w'.heap.size) v L ∧ Below w.heap.size w w' := by
  have HLW : Bx (PT (fun k => k < w.heap.size) w ao len cap L) := ⟨h.low⟩
  have HVS := Bx.mk hvs
  have HLEN : Bx (L.length = len) := ⟨h.len_eq⟩
  have hcl := h.le_cap
  have hcm := h.cap_le
  unfold maxLen at hcm
  clear h hvs
  go_enter Tryz.func155, Tryz.ntmps155
  go_wp2_with fail
  go_loopw [3, 8] (fun v i wr => ∃ k : Nat, k ≤ len ∧ i = .int .i64 k ∧ Bx (PL wr (fun k => w.heap.size ≤ k) v (L.take k)) ∧ Below w.heap.size w wr) (fun _ i _ => len - (intOf i).toNat)
  case atStart => exact ⟨0, Nat.zero_le _, rfl, ⟨by rw [List.take_zero]; exact RL.nil _ _⟩, Below.refl _ _⟩
  case round =>
    obtain ⟨k, hk, rfl, HP, hbw⟩ := hrel
    obtain ⟨vP, hvP⟩ : ∃ x, x = u3 := ⟨_, rfl⟩
    subst hvP
    by_cases hlt : k < len
    · have hkI : (k : Int) < (len : Int) := by omega
      have hkL : k < L.length := by rw [HLEN.out]; exact hlt
      have HST : Bx (L.take (k + 1) = L.take k ++ [L[k]]) := ⟨List.take_succ_eq_append_getElem hkL⟩
      have HPL : Bx (k = (L.take k).length) := ⟨by rw [List.length_take]; omega⟩
      have hval := HVS.out _ (List.getElem_mem hkL)
      obtain ⟨b, off, ai, ni, ci, rfl, hbl, hblw, h1, h2, hbt, hlo⟩ := (HLW.out.stay hbw).pr k hlt
      generalize hcc : L[k] = cc at h1 hbt hval HST
      obtain ⟨kk, vv⟩ := cc
      simp only at h1 hbt hval
      generalize L.take k = P at HST HP HPL
      obtain ⟨gc, HGC⟩ : ∃ gc, Bx (gc = wr.heap.size) := ⟨_, ⟨rfl⟩⟩
      have hni : ni ≤ 4200 := by rw [← hbt.len_eq]; exact hval
      have HGV : Bx (∀ j, vP.ownBlock = some j → j ≠ gc) := ⟨fun j hj => by have := HP.out.lt hj; have := HGC.out; omega⟩
      have hba : Below wr.heap.size wr (wr.alloc (.cells #[.string kk, .slice ai ni ci] 150)) := (Below.refl _ _).alloc (Nat.le_refl _) _
      have hra := heap_alloc_new wr (.cells #[.string kk, .slice ai ni ci] 150)
      rw [← HGC.out] at hra
      have HRA0 := Bx.mk hra
      have HBT := Bx.mk (hbt.below hba)
      have HBW := Bx.mk (bstep hbw hba)
      replace HP := Bx.mk (HP.out.below hba)
      clear hcc hbt hlo hbw hval hba hra
      go_wp2_with fail
      rw [← HGC.out]
      generalize wr.alloc (.cells #[.string kk, .slice ai ni ci] 150) = ws at HRA0 HBT HBW HP ⊢
      clear h1 h2 hblw hbl HGC
      have hk := HRA0.out
      obtain ⟨i0, hi, hz0, hz1, hz2⟩ := info_parts Tryz.infoP
      have HBD : Bx (Below ws.heap.size ws ws) := ⟨Below.refl _ _⟩
      refine wp_region_held_drew (S := fun W => W.heap[gc]? = some (.cells #[.string kk, .slice ai ni ci] 150 (0, 0))) (by kernel_rfl) hk (fun _ => ?_)
      have hgl := (Array.getElem?_eq_some_iff.1 HRA0.out).1
      generalize hwd : ws.drew = wd
      replace HP : Bx (PL wd _ _ _) := ⟨by rw [← hwd]; exact HP.out.drewN 1⟩
      replace HBT : Bx (Bts wd _ _ _ _) := ⟨by rw [← hwd]; exact HBT.out.keep (fun _ _ _ => rfl) (Nat.le_refl _)⟩
      replace HBW : Bx (Below w.heap.size w wd) := ⟨by rw [← hwd]; exact ⟨HBW.out.os, HBW.out.tape, HBW.out.output, HBW.out.size, HBW.out.block⟩⟩
      replace hk : wd.heap[gc]? = some (.cells #[.string kk, .slice ai ni ci] 150 (0, 0)) := by rw [← hwd]; exact hk
      clear hwd HRA0 HBD
      refine wpAnyH_take (i := 0) (oi := ⟨some 12, .move (.tmp 3), 74, "store.go:254", #[], none⟩) (v := ?vcpd51) rfl (by kernel_rfl) (by kernel_rfl) (by kernel_rfl) (fun _ _ _ h => h) (Or.inl ⟨by rfl, ?ycpd51⟩) hk ?rcpd51
      case ycpd51 => (intro w hSw; (try dsimp only at hSw); go_simp; first | done | with_reducible rfl)
      simp only [Act.put, List.setIfInBounds_toArray, List.set_cons_zero, List.set_cons_succ]
      refine wpAnyH_take (i := 1) (oi := ⟨some 13, .fieldAddr 150 (.tmp 5) 0, 0, "store.go:254", #[], none⟩) (v := ?vcpd52) rfl (by kernel_rfl) (by kernel_rfl) (by kernel_rfl) (fun _ _ _ h => h) (Or.inl ⟨by rfl, ?ycpd52⟩) hk ?rcpd52
      case ycpd52 => (intro w hSw; (try dsimp only at hSw); go_simp; first | done | with_reducible rfl)
      simp only [Act.put, List.setIfInBounds_toArray, List.set_cons_zero, List.set_cons_succ]
      refine wpAnyH_take (i := 2) (oi := ⟨some 14, .load 9 (.tmp 13), 9, "store.go:254", #[⟨1, .data⟩], none⟩) (v := ?vcpd53) rfl (by kernel_rfl) (by kernel_rfl) (by kernel_rfl) (fun _ _ _ h => h) (Or.inl ⟨by rfl, ?ycpd53⟩) hk ?rcpd53
      case ycpd53 => (intro w hSw; have hcw := ((cell_of_row w gc 0 _ _ (0, 0) hSw).trans rfl : w.cell? ⟨gc, 0, none⟩ = some (.string kk)); clear hSw; go_simp; first | done | with_reducible rfl)
      simp only [Act.put, List.setIfInBounds_toArray, List.set_cons_zero, List.set_cons_succ]
      refine wpAnyH_take (i := 3) (oi := ⟨some 15, .fieldAddr 150 (.tmp 5) 1, 0, "store.go:254", #[], none⟩) (v := ?vcpd54) rfl (by kernel_rfl) (by kernel_rfl) (by kernel_rfl) (fun _ _ _ h => h) (Or.inl ⟨by rfl, ?ycpd54⟩) hk ?rcpd54
      case ycpd54 => (intro w hSw; (try dsimp only at hSw); go_simp; first | done | with_reducible rfl)
      simp only [Act.put, List.setIfInBounds_toArray, List.set_cons_zero, List.set_cons_succ]
      refine wpAnyH_take (i := 4) (oi := ⟨some 16, .load 34 (.tmp 15), 34, "store.go:254", #[⟨3, .data⟩], none⟩) (v := ?vcpd55) rfl (by kernel_rfl) (by kernel_rfl) (by kernel_rfl) (fun _ _ _ h => h) (Or.inl ⟨by rfl, ?ycpd55⟩) hk ?rcpd55
      case ycpd55 => (intro w hSw; have hcw := ((cell_of_row w gc 1 _ _ (0, 0) hSw).trans rfl : w.cell? ⟨gc, 1, none⟩ = some (.slice ai ni ci)); clear hSw; go_simp; first | done | with_reducible rfl)
      simp only [Act.put, List.setIfInBounds_toArray, List.set_cons_zero, List.set_cons_succ]
      refine wpAnyH_ready (rs := [5]) (by decide +kernel) (by simp) ?_
      refine AllReadyH.cons (o := ⟨some 17, .call { callee := .value (.func 111), args := #[.tmp 16], argTypes := #[34] }, 34, "store.go:254", #[⟨4, .data⟩], none⟩) rfl (fun K hK => ?_) AllReadyH.nil
      go_simp
      refine (clone_any ai ni ci vv _ HBT.out (by omega)).mono ?_
      rintro e7 w7 ⟨v7, rfl, hown7, hb7⟩
      obtain ⟨a7, c7, rfl, hm7⟩ := Bts.of_owns hown7 HBT.out.byt
      have HM7 := Bx.mk hm7
      have HN7 : Bx (0 < ni → ∀ q, a7 = some q → w.heap.size ≤ q.block ∧ vP.ownBlock ≠ some q.block ∧ Unf w7 q.block) := ⟨fun h0 q e => by
        have h1 := (own_ge hown7 q e).1
        have h2 := HBW.out.size
        refine ⟨by omega, fun e2 => ?_, own_unf hown7 q e⟩
        have h3 := HP.out.lt e2
        omega⟩
      replace hk := (hb7.block gc (Array.getElem?_eq_some_iff.1 hk).1).trans hk
      replace HP := Bx.mk (HP.out.below hb7)
      replace HBW := Bx.mk (bstep HBW.out hb7)
      clear hown7 hb7 hm7 HBT
      refine hK.out _ _ hk (fun _ => ?_)
      clear hK K
      try simp only [Act.put, List.setIfInBounds_toArray, List.set_cons_zero, List.set_cons_succ]
      refine wpAnyH_take (i := 6) (oi := ⟨some 18, .build 150 #[(0, .tmp 14), (1, .tmp 17)], 150, "store.go:254", #[⟨2, .data⟩, ⟨5, .data⟩], none⟩) (v := ?vcpd56) rfl (by kernel_rfl) (by kernel_rfl) (by kernel_rfl) (fun _ _ _ h => h) (Or.inl ⟨by rfl, ?ycpd56⟩) hk ?rcpd56
      case ycpd56 => (intro w hSw; (try dsimp only at hSw); go_simp; first | done | with_reducible rfl)
      simp only [Act.put, List.setIfInBounds_toArray, List.set_cons_zero, List.set_cons_succ]
      refine wpAnyH_ready (rs := [7]) (by decide +kernel) (by simp) ?_
      refine AllReadyH.cons (o := ⟨some 19, .buildSlice 74 1 #[(0, .tmp 18)], 74, "store.go:254", #[⟨6, .data⟩], none⟩) rfl (fun K hK => ?_) AllReadyH.nil
      go_simp
      have hbA : Below w7.heap.size w7 (w7.alloc (.cells #[.string kk, .slice a7 ni c7] 150)) := (Below.refl _ _).alloc (Nat.le_refl _) _
      have HNW := Bx.mk (World.news_of_block (heap_alloc_new w7 (.cells #[.string kk, .slice a7 ni c7] 150)))
      replace hk := (hbA.block gc (Array.getElem?_eq_some_iff.1 hk).1).trans hk
      replace HP := Bx.mk (HP.out.below hbA)
      replace HBW := Bx.mk (bstep HBW.out hbA)
      replace HN7 : Bx (0 < ni → ∀ q, a7 = some q → w.heap.size ≤ q.block ∧ vP.ownBlock ≠ some q.block ∧ Unf (w7.alloc (.cells #[.string kk, .slice a7 ni c7] 150)) q.block) := ⟨fun h0 q e => ⟨(HN7.out h0 q e).1, (HN7.out h0 q e).2.1, (HN7.out h0 q e).2.2.keep (hbA.block _ (HM7.out.lt h0 e))⟩⟩
      replace HM7 := Bx.mk (HM7.out.below hbA)
      clear hbA
      generalize w7.heap.size = G at HNW ⊢
      generalize w7.alloc (.cells #[.string kk, .slice a7 ni c7] 150) = w8 at hk HNW HP HBW HM7 HN7 ⊢
      refine hK.out _ _ hk (fun _ => ?_)
      clear hK K
      try simp only [Act.put, List.setIfInBounds_toArray, List.set_cons_zero, List.set_cons_succ]
      refine wpAnyH_ready (rs := [8]) (by decide +kernel) (by simp) ?_
      refine AllReadyH.cons (o := ⟨some 20, .call { callee := .builtin Builtin.append, args := #[.tmp 12, .tmp 19], argTypes := #[74, 74] }, 74, "store.go:254", #[⟨0, .data⟩, ⟨7, .data⟩, ⟨5, .chain⟩], none⟩) rfl (fun K hK => ?_) AllReadyH.nil
      obtain ⟨Z, hown, HRA⟩ := HP.out.open
      rw [← HPL.out] at hown
      have HVK : Bx (∀ j, vP.ownBlock = some j → w.heap.size ≤ j) := ⟨fun j hj => HP.out.ob j hj⟩
      refine step_append_lies _ rfl (.tmp 12) (.tmp 19) 74 rfl 0 150 i0 (.agg #[.string ⟨#[]⟩, .slice none 0 0]) 2 40 Tryz.underlying74 hi hz0 hz1 hz2 rfl (by decide) _ k (Z.flatMap prE) rfl hown ⟨G, 0, none⟩ 1 1 [.string kk, .slice a7 ni c7] rfl rfl HNW.out (by simp [Value.oneCell']) (by decide) (by unfold maxLen; omega) (by omega) (Nat.zero_le _) _ rfl ?_
      intro g4 cap4 w4 hown4 hgr4 hl4 hlt4
      have hl5 : vP.ownBlock = some g4 ∨ w8.heap.size ≤ g4 := by
        rcases hl4 with h1 | h1
        · exact .inl h1
        · exact .inr (by omega)
      have hg4 : w.heap.size ≤ g4 := by
        rcases hl5 with h1 | h1
        · exact HVK.out g4 h1
        · have := HBW.out.size; omega
      have HP4 : Bx (PL w4 (fun k => w.heap.size ≤ k) (.slice (some ⟨g4, 0, none⟩) (k + 1) cap4) (L.take (k + 1))) := ⟨by
        rw [HST.out]
        exact HRA.out.done (z := ⟨(kk, vv), a7, ni, c7⟩) HPL.out rfl HM7.out HN7.out (Below.refl _ _) hown4 hgr4 hl5 (fun _ h => h) hg4⟩
      have hK4 : Below w.heap.size w w4 := HBW.out.grown hgr4 HBW.out.size (fun j hj => HVK.out j hj)
      have HK4 := Bx.mk hK4
      replace hk := (hgr4.block gc (Array.getElem?_eq_some_iff.1 hk).1 (fun e => HGV.out gc e.symm rfl)).trans hk
      clear hown hown4 hgr4 hl4 hl5 HNW HVK HRA HM7 HN7 HBW HP hg4 hlt4 hK4
      refine hK.out _ _ hk (fun _ => ?_)
      clear hK K
      try simp only [Act.put, List.setIfInBounds_toArray, List.set_cons_zero, List.set_cons_succ]
      refine wpAnyH_take (i := 9) (oi := ⟨some 3, .assign (.tmp 20), 74, "store.go:254", #[⟨8, .data⟩, ⟨8, .chain⟩, ⟨0, .phase⟩, ⟨1, .phase⟩, ⟨2, .phase⟩, ⟨3, .phase⟩, ⟨4, .phase⟩, ⟨5, .phase⟩, ⟨6, .phase⟩, ⟨7, .phase⟩, ⟨8, .phase⟩], none⟩) (v := ?vcpd57) rfl (by kernel_rfl) (by kernel_rfl) (by kernel_rfl) (fun _ _ _ h => h) (Or.inl ⟨by rfl, ?ycpd57⟩) hk ?rcpd57
      case ycpd57 => (intro w hSw; (try dsimp only at hSw); go_simp; first | done | with_reducible rfl)
      simp only [Act.put, List.setIfInBounds_toArray, List.set_cons_zero, List.set_cons_succ]
      refine wpAnyH_done (by decide +kernel) ?_ _
      clear hk hi hz0 hz1 hz2
      go_wp2_with fail
      go_roundw
      case rel => exact ⟨k + 1, by omega, by go_num, HP4, HK4.out⟩
      case measure => simp [intOf]; omega
    · have hc : ¬ (k : Int) < (len : Int) := by omega
      have HF : Bx (PL wr (fun k => w.heap.size ≤ k ∧ k < wr.heap.size) vP L) := ⟨(HP.out.mono (fun j hj ho => ⟨ho, hj⟩)).list (List.take_of_length_le (by rw [HLEN.out]; omega))⟩
      obtain ⟨aP, cP, hv9, _⟩ := HF.out.form
      subst hv9
      clear HP
      go_wp2_with fail
      go_ret
      exact ⟨_, rfl, HF.out, hbw⟩
end Go.Proofs.YtipakjenggeflaaGreatDoor
