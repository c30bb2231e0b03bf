/- How many bytes more are used, and changes done. -/
import Derived.Test.YtjnjokbdoendkaaGreatSMap
import Derived.Test.YtjnjokbdoendkaaGreatSen
import Derived.Test.YtjnjokbdoendkaaGreatFPut
namespace Go.Proofs.YtjnjokbdoendkaaGreat
open Go.RowKit
set_option linter.unusedVariables false

set_option maxRecDepth 100000 in
theorem byK_le {M : List Pr} (h : MOk M) (k : ByteArray) : byK M k ≤ 4136 := by
  unfold byK
  cases e : gtM M k with
  | none => simp
  | some v =>
    have h1 := h.k2 _ (gtM_mem e)
    have h2 := h.v _ (gtM_mem e)
    simp only at h1 h2 ⊢
    omega
set_option maxRecDepth 100000 in
theorem mo1_bd {M : List Pr} (h : MOk M) {c : Chg} (hc : COk c) : -4136 ≤ mo1 M c ∧ mo1 M c ≤ 4136 := by
  have h1 := byK_le h c.key
  have h2 := hc.k2
  have h3 := hc.v
  unfold mo1
  split <;> omega
def moP (M : List Pr) (L : List Chg) (k : Nat) : Int := moM M (L.take k)
set_option maxRecDepth 100000 in
theorem moP_step (M : List Pr) (L : List Chg) (k : Nat) (h : k < L.length) : moP M L (k + 1) = moP M L k + mo1 M L[k] := by
  unfold moP moM
  rw [List.take_succ_eq_append_getElem h, List.map_append, List.sum_append, List.map_cons, List.map_nil, List.sum_cons, List.sum_nil, Int.add_zero]
set_option maxRecDepth 100000 in
theorem moP_all (M : List Pr) (L : List Chg) (k : Nat) (h : L.length ≤ k) : moP M L k = moM M L := by
  unfold moP
  rw [List.take_of_length_le h]
set_option maxRecDepth 100000 in
theorem moM_bd {M : List Pr} (h : MOk M) : ∀ (L : List Chg), (∀ c ∈ L, COk c) → -(4136 * (L.length : Int)) ≤ moM M L ∧ moM M L ≤ 4136 * (L.length : Int)
  | [], _ => by simp [moM]
  | c :: t, hc => by
    have h1 := mo1_bd h (hc c (by simp))
    have h2 := moM_bd h t (fun d hd => hc d (by simp [hd]))
    have h3 : moM M (c :: t) = mo1 M c + moM M t := by simp [moM]
    rw [h3, List.length_cons]
    omega
set_option maxRecDepth 100000 in
theorem moP_bd {M : List Pr} (h : MOk M) {L : List Chg} (hc : ∀ c ∈ L, COk c) (k : Nat) (hk : k ≤ 16) : -66176 ≤ moP M L k ∧ moP M L k ≤ 66176 := by
  have h1 := moM_bd h (L.take k) (fun c hc2 => hc c (List.mem_of_mem_take hc2))
  have h2 : (L.take k).length ≤ 16 := by rw [List.length_take]; omega
  unfold moP
  omega
set_option maxRecDepth 100000 in
set_option maxHeartbeats 2000000 in
theorem more_any (gs gl : Nat) (q us : Int) (own : Nat → Prop) (M : List Pr) (B : Nat → Prop) (ao : Option Addr) (len cap : Nat) (L : List Chg) (w : World) (hs : St w gs gl q us own M) (h : CT B w ao len cap L) (hc : ∀ c ∈ L, COk c) (hlen : len ≤ 16) :
    Calls Tryz.prog 44 #[.pointer (some ⟨gs, 0, none⟩), .slice ao len cap] w fun e w' => e = .returned (.int .i64 (moM M L)) ∧ Below w.heap.size w w' := by
  obtain ⟨gm, es, clock, Z, hR⟩ := hs
  have HR : Bx (StR w gs gl gm q us own M es clock Z) := ⟨hR⟩
  have HLW : Bx (CT (fun k => k < w.heap.size) w ao len cap L) := ⟨h.low⟩
  have HC : Bx (∀ c ∈ L, COk c) := ⟨hc⟩
  have HLEN : Bx (L.length = len) := ⟨h.len_eq⟩
  have hcl := h.le_cap
  have hcm := h.cap_le
  unfold maxLen at hcm
  have HKB : Bx (∀ W, Below w.heap.size w W → StR W gs gl gm q us own M es clock Z) := ⟨fun W hW => hR.keep (fun k hk => hW.block k (hR.lt k hk)) hW.size⟩
  have h00 : moP M L 0 = 0 := by simp [moP, moM]
  clear h hc hR
  go_enter Tryz.func44, Tryz.ntmps44
  go_wp2_with fail
  go_loopw [5, 12] (fun n i wr => ∃ k : Nat, k ≤ len ∧ i = .int .i64 k ∧ n = .int .i64 (moP M L k) ∧ Below w.heap.size w wr) (fun _ i _ => len - (intOf i).toNat)
  case atStart => exact ⟨0, Nat.zero_le _, rfl, by rw [h00], Below.refl _ _⟩
  case round =>
    clear h00
    obtain ⟨k, hk, rfl, rfl, hbw⟩ := hrel
    by_cases hlt : k < len
    · have hkI : (k : Int) < (len : Int) := by omega
      have hkL : k < L.length := by rw [HLEN.out]; exact hlt
      have HST : Bx (moP M L (k + 1) = moP M L k + mo1 M L[k]) := ⟨moP_step M L k hkL⟩
      have hbd := moP_bd HR.out.mo HC.out k (by omega)
      have hck := HC.out _ (List.getElem_mem hkL)
      obtain ⟨b, off, ai, ni, ci, rfl, hbl, hblw, h1, h2, h3, hbt, hlo⟩ := (HLW.out.stay hbw).chg k hlt
      have hk40 := hck.k2
      have hv40 := hck.v
      have hvl := hbt.len_eq
      have HM1 : Bx (mo1 M L[k] = (if L[k].del = true then 0 else (L[k].key.size : Int) + (ni : Int)) - byK M L[k].key) := ⟨by rw [← hvl]; rfl⟩
      have hbk := byK_le HR.out.mo L[k].key
      have HLK : Bx (byK M L[k].key = match gtM M L[k].key with | some v => L[k].key.size + v.length | none => 0) := ⟨rfl⟩
      generalize hcc : L[k] = cc at h1 h2 hbt hk40 hv40 hvl HST HM1 hbk HLK
      obtain ⟨kk, dd, vv⟩ := cc
      simp only at h1 h2 hbt hk40 hv40 hvl HM1 hbk HLK
      have HBW : Bx (Below w.heap.size w wr) := ⟨hbw⟩
      have hba : Below wr.heap.size wr (wr.alloc (.cells #[.string kk, .bool dd, .slice ai ni ci] 48)) := (Below.refl _ _).alloc (Nat.le_refl _) _
      have HBA : Bx (Below w.heap.size w (wr.alloc (.cells #[.string kk, .bool dd, .slice ai ni ci] 48))) := ⟨bstep hbw hba⟩
      have hra : (wr.alloc (.cells #[.string kk, .bool dd, .slice ai ni ci] 48)).heap[wr.heap.size]? = some (.cells #[.string kk, .bool dd, .slice ai ni ci] 48 (0, 0)) := heap_alloc_new wr _
      obtain ⟨gc, HGC⟩ : ∃ gc, Bx (gc = wr.heap.size) := ⟨_, ⟨rfl⟩⟩
      rw [← HGC.out] at hra
      have HRA := Bx.mk hra
      generalize moP M L k = X at HST hbd
      clear hcc hbt hlo hbw hba hra hck
      go_wp2_with fail
      rw [← HGC.out]
      generalize wr.alloc (.cells #[.string kk, .bool dd, .slice ai ni ci] 48) = wa at HBA HRA ⊢
      have HRd : Bx (StR wa.drew gs gl gm q us own M es clock Z) := ⟨HKB.out _ HBA.out.drew⟩
      obtain ⟨al, nl, cl, bl, hlk, hlb, hbb⟩ := HRd.out.look kk
      have hk : wa.drew.cell? ⟨gs, 2, none⟩ = some (.map (some gm)) ∧ wa.drew.cell? ⟨gc, 0, none⟩ = some (.string kk) ∧ (Instr.lookup 84 (.map (some gm)) (.string kk) true).run Tryz.prog wa.drew = .ok (.tuple #[.slice al nl cl, .bool bl]) wa.drew := ⟨HRd.out.c2, cell_of_row wa.drew gc 0 _ _ (0, 0) HRA.out, hlk⟩
      have HD : Bx (Below w.heap.size w wa.drew ∧ wa.drew.heap[gc]? = some (.cells #[.string kk, .bool dd, .slice ai ni ci] 48 (0, 0))) := ⟨HBA.out.drew, HRA.out⟩
      have hnl := hlb.len_eq
      have HLK2 : Bx ((bl = true ∧ byK M kk = kk.size + nl) ∨ (bl = false ∧ byK M kk = 0)) := ⟨by
        rw [HLK.out, hbb, ← hnl]
        cases gtM M kk with
        | none => exact .inr ⟨rfl, rfl⟩
        | some v => exact .inl ⟨rfl, rfl⟩⟩
      clear HRd hlk hlb hbb HLK hnl HBA HRA HBW
      refine wp_region_held_drew (S := fun W => W.cell? ⟨gs, 2, none⟩ = some (.map (some gm)) ∧ W.cell? ⟨gc, 0, none⟩ = some (.string kk) ∧ (Instr.lookup 84 (.map (some gm)) (.string kk) true).run Tryz.prog W = .ok (.tuple #[.slice al nl cl, .bool bl]) W) (by kernel_rfl) hk (fun _ => ?_)
      generalize hwk : wa.drew = wk at hk HD ⊢
      clear hwk
      refine wpAnyH_take (i := 0) (oi := ⟨some 17, .move (.tmp 0), 32, "store.go:193", #[], none⟩) (v := ?vmor51) rfl (by kernel_rfl) (by kernel_rfl) (by kernel_rfl) (fun _ _ _ h => h) (Or.inl ⟨by rfl, ?ymor51⟩) hk ?rmor51
      case ymor51 => (intro w hSw; (try dsimp only at hSw); go_simp; first | done | with_reducible rfl)
      simp only [Act.put, List.setIfInBounds_toArray, List.set_cons_zero, List.set_cons_succ]
      refine wpAnyH_take (i := 1) (oi := ⟨some 18, .nilCheck (.tmp 17), 0, "store.go:193", #[⟨0, .data⟩], none⟩) (v := ?vmor52) rfl (by kernel_rfl) (by kernel_rfl) (by kernel_rfl) (fun _ _ _ h => h) (Or.inl ⟨by rfl, ?ymor52⟩) hk ?rmor52
      case ymor52 => (intro w hSw; (try dsimp only at hSw); go_simp; first | done | with_reducible rfl)
      simp only [Act.put, List.setIfInBounds_toArray, List.set_cons_zero, List.set_cons_succ]
      refine wpAnyH_take (i := 2) (oi := ⟨some 19, .fieldAddr 86 (.tmp 18) 2, 0, "store.go:193", #[⟨1, .data⟩], none⟩) (v := ?vmor53) rfl (by kernel_rfl) (by kernel_rfl) (by kernel_rfl) (fun _ _ _ h => h) (Or.inl ⟨by rfl, ?ymor53⟩) hk ?rmor53
      case ymor53 => (intro w hSw; (try dsimp only at hSw); go_simp; first | done | with_reducible rfl)
      simp only [Act.put, List.setIfInBounds_toArray, List.set_cons_zero, List.set_cons_succ]
      refine wpAnyH_take (i := 3) (oi := ⟨some 20, .load 84 (.tmp 19), 84, "store.go:193", #[⟨2, .data⟩], none⟩) (v := ?vmor54) rfl (by kernel_rfl) (by kernel_rfl) (by kernel_rfl) (fun _ _ _ h => h) (Or.inl ⟨by rfl, ?ymor54⟩) hk ?rmor54
      case ymor54 => (intro w hSw; have hcw := hSw.1; clear hSw; go_simp; first | done | with_reducible rfl)
      simp only [Act.put, List.setIfInBounds_toArray, List.set_cons_zero, List.set_cons_succ]
      refine wpAnyH_take (i := 4) (oi := ⟨some 21, .fieldAddr 48 (.tmp 7) 0, 0, "store.go:193", #[], none⟩) (v := ?vmor55) rfl (by kernel_rfl) (by kernel_rfl) (by kernel_rfl) (fun _ _ _ h => h) (Or.inl ⟨by rfl, ?ymor55⟩) hk ?rmor55
      case ymor55 => (intro w hSw; (try dsimp only at hSw); go_simp; first | done | with_reducible rfl)
      simp only [Act.put, List.setIfInBounds_toArray, List.set_cons_zero, List.set_cons_succ]
      refine wpAnyH_take (i := 5) (oi := ⟨some 22, .load 9 (.tmp 21), 9, "store.go:193", #[⟨4, .data⟩], none⟩) (v := ?vmor56) rfl (by kernel_rfl) (by kernel_rfl) (by kernel_rfl) (fun _ _ _ h => h) (Or.inl ⟨by rfl, ?ymor56⟩) hk ?rmor56
      case ymor56 => (intro w hSw; have hcw := hSw.2.1; clear hSw; go_simp; first | done | with_reducible rfl)
      simp only [Act.put, List.setIfInBounds_toArray, List.set_cons_zero, List.set_cons_succ]
      refine wpAnyH_take (i := 6) (oi := ⟨some 23, .lookup 84 (.tmp 20) (.tmp 22) true, 67, "store.go:193", #[⟨3, .data⟩, ⟨5, .data⟩], none⟩) (v := .tuple #[.slice al nl cl, .bool bl]) rfl (by kernel_rfl) (by kernel_rfl) (by kernel_rfl) (fun _ _ _ h => h) (Or.inl ⟨by rfl, ?ymor57⟩) hk ?rmor57
      case ymor57 => (intro w hSw; have hlk := hSw.2.2; go_simp; first | done | with_reducible rfl)
      simp only [Act.put, List.setIfInBounds_toArray, List.set_cons_zero, List.set_cons_succ]
      refine wpAnyH_take (i := 7) (oi := ⟨some 16, .move (.tmp 23), 67, "store.go:193", #[⟨6, .data⟩], none⟩) (v := ?vmor58) rfl (by kernel_rfl) (by kernel_rfl) (by kernel_rfl) (fun _ _ _ h => h) (Or.inl ⟨by rfl, ?ymor58⟩) hk ?rmor58
      case ymor58 => (intro w hSw; (try dsimp only at hSw); go_simp; first | done | with_reducible rfl)
      simp only [Act.put, List.setIfInBounds_toArray, List.set_cons_zero, List.set_cons_succ]
      refine wpAnyH_take (i := 8) (oi := ⟨some 24, .extract (.tmp 16) 0, 46, "store.go:193", #[⟨7, .data⟩], none⟩) (v := ?vmor59) rfl (by kernel_rfl) (by kernel_rfl) (by kernel_rfl) (fun _ _ _ h => h) (Or.inl ⟨by rfl, ?ymor59⟩) hk ?rmor59
      case ymor59 => (intro w hSw; (try dsimp only at hSw); go_simp; first | done | with_reducible rfl)
      simp only [Act.put, List.setIfInBounds_toArray, List.set_cons_zero, List.set_cons_succ]
      refine wpAnyH_take (i := 9) (oi := ⟨some 25, .extract (.tmp 16) 1, 4, "store.go:193", #[⟨7, .data⟩, { on := 10, ground := Ground.gcOnly Departure.lateStores }], none⟩) (v := ?vmor510) rfl (by kernel_rfl) (by kernel_rfl) (by kernel_rfl) (fun _ _ _ h => h) (Or.inl ⟨by rfl, ?ymor510⟩) hk ?rmor510
      case ymor510 => (intro w hSw; (try dsimp only at hSw); go_simp; first | done | with_reducible rfl)
      simp only [Act.put, List.setIfInBounds_toArray, List.set_cons_zero, List.set_cons_succ]
      refine wpAnyH_take (i := 10) (oi := ⟨some 8, .assign (.tmp 24), 46, "store.go:193", #[⟨8, .data⟩, ⟨0, .phase⟩, ⟨1, .phase⟩, ⟨2, .phase⟩, ⟨3, .phase⟩, ⟨4, .phase⟩, ⟨5, .phase⟩, ⟨6, .phase⟩, ⟨7, .phase⟩, ⟨8, .phase⟩, { on := 9, ground := Ground.textOnly Departure.lateStores }], none⟩) (v := ?vmor511) rfl (by kernel_rfl) (by kernel_rfl) (by kernel_rfl) (fun _ _ _ h => h) (Or.inl ⟨by rfl, ?ymor511⟩) hk ?rmor511
      case ymor511 => (intro w hSw; (try dsimp only at hSw); go_simp; first | done | with_reducible rfl)
      simp only [Act.put, List.setIfInBounds_toArray, List.set_cons_zero, List.set_cons_succ]
      refine wpAnyH_take (i := 11) (oi := ⟨some 9, .assign (.tmp 25), 4, "store.go:193", #[⟨9, .data⟩, ⟨10, .chain⟩, ⟨0, .phase⟩, ⟨1, .phase⟩, ⟨2, .phase⟩, ⟨3, .phase⟩, ⟨4, .phase⟩, ⟨5, .phase⟩, ⟨6, .phase⟩, ⟨7, .phase⟩, ⟨8, .phase⟩, ⟨9, .phase⟩, ⟨10, .phase⟩], none⟩) (v := ?vmor512) rfl (by kernel_rfl) (by kernel_rfl) (by kernel_rfl) (fun _ _ _ h => h) (Or.inl ⟨by rfl, ?ymor512⟩) hk ?rmor512
      case ymor512 => (intro w hSw; (try dsimp only at hSw); go_simp; first | done | with_reducible rfl)
      simp only [Act.put, List.setIfInBounds_toArray, List.set_cons_zero, List.set_cons_succ]
      refine wpAnyH_done (by decide +kernel) ?_ _
      have hbw2 := HD.out.1
      have j0 : wk.cell? ⟨gc, 0, none⟩ = some (.string kk) := cell_of_row wk gc 0 _ _ (0, 0) HD.out.2
      have j1 : wk.cell? ⟨gc, 1, none⟩ = some (.bool dd) := cell_of_row wk gc 1 _ _ (0, 0) HD.out.2
      have j2 : wk.cell? ⟨gc, 2, none⟩ = some (.slice ai ni ci) := cell_of_row wk gc 2 _ _ (0, 0) HD.out.2
      clear HD hk
      rcases HLK2.out with ⟨rfl, hby⟩ | ⟨rfl, hby⟩
      · rw [hby] at HM1 hbk
        have w0 : IntKind.i64.wrap ((kk.size : Int) + (nl : Int)) = (kk.size : Int) + (nl : Int) := by rw [IntWalk.i64_in _ (by omega)]
        have w9 : IntKind.i64.wrap (X - ((kk.size : Int) + (nl : Int))) = X - ((kk.size : Int) + (nl : Int)) := by rw [IntWalk.i64_in _ (by omega)]
        by_cases hdl : dd = true
        · subst hdl
          have HF : Bx (moP M L (k + 1) = (X - ((kk.size : Int) + (nl : Int)))) := ⟨by rw [HST.out, HM1.out, if_pos rfl]; omega⟩
          go_wp2_with fail
          go_roundw
          case rel => exact ⟨k + 1, by omega, by go_num, by rw [HF.out], hbw2⟩
          case measure => simp [intOf]; omega
        · obtain rfl : dd = false := by simpa using hdl
          have HF : Bx (moP M L (k + 1) = (X - ((kk.size : Int) + (nl : Int))) + ((kk.size : Int) + (ni : Int))) := ⟨by rw [HST.out, HM1.out, if_neg (by simp)]; omega⟩
          have w1 : IntKind.i64.wrap ((kk.size : Int) + (ni : Int)) = (kk.size : Int) + (ni : Int) := by rw [IntWalk.i64_in _ (by omega)]
          have w2 : IntKind.i64.wrap ((X - ((kk.size : Int) + (nl : Int))) + ((kk.size : Int) + (ni : Int))) = (X - ((kk.size : Int) + (nl : Int))) + ((kk.size : Int) + (ni : Int)) := by rw [IntWalk.i64_in _ (by omega)]
          go_wp2_with fail
          go_roundw
          case rel => exact ⟨k + 1, by omega, by go_num, by rw [HF.out], hbw2⟩
          case measure => simp [intOf]; omega
      · rw [hby] at HM1
        by_cases hdl : dd = true
        · subst hdl
          have HF : Bx (moP M L (k + 1) = X) := ⟨by rw [HST.out, HM1.out, if_pos rfl]; omega⟩
          go_wp2_with fail
          go_roundw
          case rel => exact ⟨k + 1, by omega, by go_num, by rw [HF.out], hbw2⟩
          case measure => simp [intOf]; omega
        · obtain rfl : dd = false := by simpa using hdl
          have HF : Bx (moP M L (k + 1) = X + ((kk.size : Int) + (ni : Int))) := ⟨by rw [HST.out, HM1.out, if_neg (by simp)]; omega⟩
          have w1 : IntKind.i64.wrap ((kk.size : Int) + (ni : Int)) = (kk.size : Int) + (ni : Int) := by rw [IntWalk.i64_in _ (by omega)]
          have w2 : IntKind.i64.wrap (X + ((kk.size : Int) + (ni : Int))) = X + ((kk.size : Int) + (ni : Int)) := by rw [IntWalk.i64_in _ (by omega)]
          go_wp2_with fail
          go_roundw
          case rel => exact ⟨k + 1, by omega, by go_num, by rw [HF.out], hbw2⟩
          case measure => simp [intOf]; omega
    · have hkI : ¬ (k : Int) < (len : Int) := by omega
      have HF : Bx (moP M L k = moM M L) := ⟨moP_all M L k (by rw [HLEN.out]; omega)⟩
      rw [HF.out]
      go_wp2_with fail
      go_ret
      exact ⟨rfl, hbw⟩
set_option maxRecDepth 100000 in
theorem doM_step (M : List Pr) (L : List Chg) (k : Nat) (h : k < L.length) : doM M (L.take (k + 1)) = upd (doM M (L.take k)) L[k] := by
  unfold doM
  rw [List.take_succ_eq_append_getElem h, List.foldl_append]; rfl
/-- a store, beside a list of changes that are not its own -/
structure SdS (w wk : World) (gs gl gm : Nat) (q us : Int) (own own2 : Nat → Prop) (B : Nat → Prop) (ao : Option Addr) (len cap : Nat) (L : List Chg) (M2 : List Pr) (es : Array MapEntry) (clock : Nat) (Z : List (It Pr)) : Prop where
  st : StR wk gs gl gm q us own2 M2 es clock Z
  did : Did own w wk own2
  lst : CT B wk ao len cap L
  om : own gm
def Sds (w wk : World) (gs gl : Nat) (q us : Int) (own own2 : Nat → Prop) (B : Nat → Prop) (ao : Option Addr) (len cap : Nat) (L : List Chg) (M2 : List Pr) : Prop := ∃ gm es clock Z, SdS w wk gs gl gm q us own own2 B ao len cap L M2 es clock Z
set_option maxRecDepth 100000 in
theorem SdS.below {w wk wk' : World} {gs gl gm : Nat} {q us : Int} {own own2 B : Nat → Prop} {ao : Option Addr} {len cap : Nat} {L : List Chg} {M2 : List Pr} {es : Array MapEntry} {clock : Nat} {Z : List (It Pr)} (h : SdS w wk gs gl gm q us own own2 B ao len cap L M2 es clock Z) (hb : Below wk.heap.size wk wk') : SdS w wk' gs gl gm q us own own2 B ao len cap L M2 es clock Z :=
  ⟨h.st.keep (fun k hk => hb.block k (h.st.lt k hk)) hb.size, h.did.below hb, h.lst.below hb, h.om⟩
set_option maxRecDepth 100000 in
theorem SdS.drew {w wk : World} {gs gl gm : Nat} {q us : Int} {own own2 B : Nat → Prop} {ao : Option Addr} {len cap : Nat} {L : List Chg} {M2 : List Pr} {es : Array MapEntry} {clock : Nat} {Z : List (It Pr)} (h : SdS w wk gs gl gm q us own own2 B ao len cap L M2 es clock Z) : SdS w wk.drew gs gl gm q us own own2 B ao len cap L M2 es clock Z :=
  h.below ((Below.refl _ _).drew)
set_option maxRecDepth 100000 in
/-- the map's entries change, all else stays -/
theorem SdS.set {w wk : World} {gs gl gm : Nat} {q us : Int} {own own2 own3 B : Nat → Prop} {ao : Option Addr} {len cap : Nat} {L : List Chg} {M2 M3 : List Pr} {es es2 : Array MapEntry} {clock clock2 : Nat} {Z Z2 : List (It Pr)} (h : SdS w wk gs gl gm q us own own2 B ao len cap L M2 es clock Z)
    (hst : StR (setM wk gm es2 clock2) gs gl gm q us own3 M3 es2 clock2 Z2) (hnew : ∀ k, own3 k → own2 k ∨ (w.heap.size ≤ k ∧ k < wk.heap.size)) (hB : ∀ k, B k → ¬ own k) : SdS w (setM wk gm es2 clock2) gs gl gm q us own own3 B ao len cap L M3 es2 clock2 Z2 := by
  refine ⟨hst, ⟨⟨h.did.kept.os, h.did.kept.tape, h.did.kept.output, by rw [setM_size]; exact h.did.kept.size, fun k hk hn => ?_⟩, fun k hk => ?_⟩, h.lst.keep (fun k _ ho => setM_other wk es2 clock2 (fun e => hB k ho (by rw [e]; exact h.om))) (by rw [setM_size]; exact Nat.le_refl _) (fun _ _ h => h), h.om⟩
  · rw [setM_other wk es2 clock2 (fun e => hn (by rw [e]; exact h.om))]
    exact h.did.kept.block k hk hn
  · rw [setM_size]
    rcases hnew k hk with h1 | h1
    · exact h.did.new k h1
    · exact .inr h1
set_option maxRecDepth 100000 in
theorem cell_setM (w : World) {gm g : Nat} (es : Array MapEntry) (clock : Nat) (h : g ≠ gm) (j : Nat) : (setM w gm es clock).cell? ⟨g, j, none⟩ = w.cell? ⟨g, j, none⟩ := World.cell?_of_block (a := ⟨g, j, none⟩) (setM_other w es clock h)
set_option maxRecDepth 100000 in
set_option maxHeartbeats 4000000 in
set_option maxRecDepth 100000 in
theorem do_any (gs gl : Nat) (q us : Int) (own : Nat → Prop) (M : List Pr) (B : Nat → Prop) (ao : Option Addr) (len cap : Nat) (L : List Chg) (w : World) (hs : St w gs gl q us own M) (h : CT B w ao len cap L) (hB : ∀ k, B k → ¬ own k) (hc : ∀ c ∈ L, COk c) (hlen : len ≤ 16) (hu0 : 0 ≤ us) (hu1 : us ≤ 1099511627776) :
    Calls Tryz.prog 37 #[.pointer (some ⟨gs, 0, none⟩), .slice ao len cap] w fun e w' => e = .returned (.tuple #[]) ∧ ∃ own2, St w' gs gl q (us + moM M L) own2 (doM M L) ∧ Did own w w' own2 := by
  obtain ⟨gm, es, clock, Z, hR⟩ := hs
  have HR : Bx (StR w gs gl gm q us own M es clock Z) := ⟨hR⟩
  have HL : Bx (CT B w ao len cap L) := ⟨h⟩
  have HC : Bx (∀ c ∈ L, COk c) := ⟨hc⟩
  have HBO : Bx (∀ k, B k → ¬ own k) := ⟨hB⟩
  have HLEN : Bx (L.length = len) := ⟨h.len_eq⟩
  have hcl := h.le_cap
  have hcm := h.cap_le
  unfold maxLen at hcm
  have hmb := moP_bd hR.mo hc len (by omega)
  rw [moP_all M L len (by rw [HLEN.out]; exact Nat.le_refl _)] at hmb
  have HMO : Bx (∀ W, Below w.heap.size w W → Calls Tryz.prog 44 #[.pointer (some ⟨gs, 0, none⟩), .slice ao len cap] W fun e w' => e = .returned (.int .i64 (moM M L)) ∧ Below w.heap.size w w') := ⟨fun W hW => (more_any gs gl q us own M B ao len cap L W ⟨gm, es, clock, Z, hR.keep (fun k hk => hW.block k (hR.lt k hk)) hW.size⟩ (h.below hW) hc hlen).mono fun _ _ ⟨e1, e2⟩ => ⟨e1, bstep hW e2⟩⟩
  obtain ⟨U, HU⟩ : ∃ U, Bx (U = us + moM M L) := ⟨_, ⟨rfl⟩⟩
  have hwu : IntKind.i64.wrap (us + moM M L) = us + moM M L := by rw [IntWalk.i64_in _ (by omega)]
  generalize hm : moM M L = mo at HMO HU hwu hmb ⊢
  have HK : Bx (Below w.heap.size w w.drew) := ⟨(Below.refl _ _).drew⟩
  have hk : True := trivial
  clear h hB hc hR hm
  go_enter Tryz.func37, Tryz.ntmps37
  go_wp2_with fail
  go_cut [] from 6 to 15 (fun wx => Bx (SdS w wx gs gl gm q (us + mo) own own B ao len cap L M es clock Z))
  case first =>
    refine wp_region_held_drew (S := fun _ => True) (by kernel_rfl) hk (fun _ => ?_)
    generalize w.drew = wk at HK ⊢
    refine wpAnyH_take (i := 0) (oi := ⟨some 6, .move (.tmp 0), 32, "store.go:205", #[], none⟩) (v := ?vdo01) rfl (by kernel_rfl) (by kernel_rfl) (by kernel_rfl) (fun _ _ _ h => h) (Or.inl ⟨by rfl, ?ydo01⟩) hk ?rdo01
    case ydo01 => (intro w hSw; (try dsimp only at hSw); go_simp; first | done | with_reducible rfl)
    simp only [Act.put, List.setIfInBounds_toArray, List.set_cons_zero, List.set_cons_succ]
    refine wpAnyH_take (i := 1) (oi := ⟨some 7, .nilCheck (.tmp 6), 0, "store.go:205", #[⟨0, .data⟩], none⟩) (v := ?vdo02) rfl (by kernel_rfl) (by kernel_rfl) (by kernel_rfl) (fun _ _ _ h => h) (Or.inl ⟨by rfl, ?ydo02⟩) hk ?rdo02
    case ydo02 => (intro w hSw; (try dsimp only at hSw); go_simp; first | done | with_reducible rfl)
    simp only [Act.put, List.setIfInBounds_toArray, List.set_cons_zero, List.set_cons_succ]
    refine wpAnyH_take (i := 2) (oi := ⟨some 8, .fieldAddr 86 (.tmp 7) 3, 0, "store.go:205", #[⟨1, .data⟩], none⟩) (v := ?vdo03) rfl (by kernel_rfl) (by kernel_rfl) (by kernel_rfl) (fun _ _ _ h => h) (Or.inl ⟨by rfl, ?ydo03⟩) hk ?rdo03
    case ydo03 => (intro w hSw; (try dsimp only at hSw); go_simp; first | done | with_reducible rfl)
    simp only [Act.put, List.setIfInBounds_toArray, List.set_cons_zero, List.set_cons_succ]
    refine wpAnyH_take (i := 4) (oi := ⟨some 10, .move (.tmp 0), 32, "store.go:205", #[], none⟩) (v := ?vdo04) rfl (by kernel_rfl) (by kernel_rfl) (by kernel_rfl) (fun _ _ _ h => h) (Or.inl ⟨by rfl, ?ydo04⟩) hk ?rdo04
    case ydo04 => (intro w hSw; (try dsimp only at hSw); go_simp; first | done | with_reducible rfl)
    simp only [Act.put, List.setIfInBounds_toArray, List.set_cons_zero, List.set_cons_succ]
    refine wpAnyH_take (i := 5) (oi := ⟨some 11, .move (.tmp 1), 39, "store.go:205", #[], none⟩) (v := ?vdo05) rfl (by kernel_rfl) (by kernel_rfl) (by kernel_rfl) (fun _ _ _ h => h) (Or.inl ⟨by rfl, ?ydo05⟩) hk ?rdo05
    case ydo05 => (intro w hSw; (try dsimp only at hSw); go_simp; first | done | with_reducible rfl)
    simp only [Act.put, List.setIfInBounds_toArray, List.set_cons_zero, List.set_cons_succ]
    refine wpAnyH_ready (rs := [3, 6]) (by decide +kernel) (by simp) ?_
    refine (AllReadyH.cons (o := ⟨some 9, .load 3 (.tmp 8), 3, "store.go:205", #[⟨2, .data⟩], none⟩) rfl (fun K hK => ?_) (AllReadyH.cons (o := ⟨some 12, .call { callee := .value (.func 44), args := #[.tmp 10, .tmp 11], argTypes := #[32, 39] }, 3, "store.go:205", #[⟨4, .data⟩, ⟨5, .data⟩], none⟩) rfl (fun K hK => ?_) AllReadyH.nil))
    · rw [if_pos (by rfl)]
      have k3 : wk.cell? ⟨gs, 3, none⟩ = some (.int .i64 us) := (HK.out.cell (p := ⟨gs, 3, none⟩) (HR.out.lt _ HR.out.og)).trans HR.out.c3
      go_simp
      clear k3
      refine hK.out _ _ hk (fun _ => ?_)
      clear hK K
      try simp only [Act.put, List.setIfInBounds_toArray, List.set_cons_zero, List.set_cons_succ]
      refine wpAnyH_ready (rs := [6]) (by decide +kernel) (by simp) ?_
      refine AllReadyH.cons (o := ⟨some 12, .call { callee := .value (.func 44), args := #[.tmp 10, .tmp 11], argTypes := #[32, 39] }, 3, "store.go:205", #[⟨4, .data⟩, ⟨5, .data⟩], none⟩) rfl (fun K hK => ?_) AllReadyH.nil
      go_simp
      refine (HMO.out _ HK.out).mono ?_
      rintro e6 w6 ⟨rfl, hb6⟩
      replace HK : Bx (Below w.heap.size w w6) := ⟨hb6⟩
      clear hb6
      obtain ⟨wk, hwk⟩ : ∃ x, x = w6 := ⟨_, rfl⟩
      subst hwk
      refine hK.out _ _ hk (fun _ => ?_)
      clear hK K
      try simp only [Act.put, List.setIfInBounds_toArray, List.set_cons_zero, List.set_cons_succ]
      refine wpAnyH_take (i := 7) (oi := ⟨some 13, .binOp .add 3 (.tmp 9) (.tmp 12) 3, 3, "store.go:205", #[⟨3, .data⟩, ⟨6, .data⟩], none⟩) (v := ?vdo07) rfl (by kernel_rfl) (by kernel_rfl) (by kernel_rfl) (fun _ _ _ h => h) (Or.inl ⟨by rfl, ?ydo07⟩) hk ?rdo07
      case ydo07 => (intro w hSw; (try dsimp only at hSw); go_simp; first | done | with_reducible rfl)
      simp only [Act.put, List.setIfInBounds_toArray, List.set_cons_zero, List.set_cons_succ]
      refine wpAnyH_take (i := 8) (oi := ⟨some 14, .nilCheck (.tmp 6), 0, "store.go:205", #[⟨0, .data⟩, ⟨0, .phase⟩, ⟨1, .phase⟩, ⟨2, .phase⟩, ⟨3, .phase⟩, ⟨4, .phase⟩, ⟨5, .phase⟩, ⟨6, .phase⟩, ⟨7, .phase⟩], none⟩) (v := ?vdo08) rfl (by kernel_rfl) (by kernel_rfl) (by kernel_rfl) (fun _ _ _ h => h) (Or.inl ⟨by rfl, ?ydo08⟩) hk ?rdo08
      case ydo08 => (intro w hSw; (try dsimp only at hSw); go_simp; first | done | with_reducible rfl)
      simp only [Act.put, List.setIfInBounds_toArray, List.set_cons_zero, List.set_cons_succ]
      refine wpAnyH_take (i := 9) (oi := ⟨some 15, .fieldAddr 86 (.tmp 14) 3, 0, "store.go:205", #[⟨8, .data⟩, ⟨0, .phase⟩, ⟨1, .phase⟩, ⟨2, .phase⟩, ⟨3, .phase⟩, ⟨4, .phase⟩, ⟨5, .phase⟩, ⟨6, .phase⟩, ⟨7, .phase⟩], none⟩) (v := ?vdo09) rfl (by kernel_rfl) (by kernel_rfl) (by kernel_rfl) (fun _ _ _ h => h) (Or.inl ⟨by rfl, ?ydo09⟩) hk ?rdo09
      case ydo09 => (intro w hSw; (try dsimp only at hSw); go_simp; first | done | with_reducible rfl)
      simp only [Act.put, List.setIfInBounds_toArray, List.set_cons_zero, List.set_cons_succ]
      refine wpAnyH_ready (rs := [10]) (by decide +kernel) (by simp) ?_
      refine AllReadyH.cons (o := ⟨none, .store 3 (.tmp 15) (.tmp 13), 0, "store.go:205", #[⟨9, .data⟩, ⟨7, .data⟩, ⟨6, .chain⟩, ⟨0, .phase⟩, ⟨1, .phase⟩, ⟨2, .phase⟩, ⟨3, .phase⟩, ⟨4, .phase⟩, ⟨5, .phase⟩, ⟨6, .phase⟩, ⟨7, .phase⟩], none⟩) rfl (fun K hK => ?_) AllReadyH.nil
      rw [if_pos (by rfl)]
      have k3 : wk.cell? ⟨gs, 3, none⟩ = some (.int .i64 us) := (HK.out.cell (p := ⟨gs, 3, none⟩) (HR.out.lt _ HR.out.og)).trans HR.out.c3
      have f3 : wk.frozen? ⟨gs, 3, none⟩ = false := (HR.out.keep (fun k hk => HK.out.block k (HR.out.lt k hk)) HK.out.size).fr 3
      go_simp
      clear k3 f3
      refine hK.out _ _ hk (fun _ => ?_)
      clear hK K
      try simp only [Act.put, List.setIfInBounds_toArray, List.set_cons_zero, List.set_cons_succ]
      refine wpAnyH_done (by decide +kernel) ?_ _
      have HX : Bx (SdS w (wk.setCell ⟨gs, 3, none⟩ (.int .i64 (us + mo))) gs gl gm q (us + mo) own own B ao len cap L M es clock Z) := ⟨(HR.out.keep (fun k hk => HK.out.block k (HR.out.lt k hk)) HK.out.size).setUsed _, Did.same ((Kept.of_below HK.out).setCell (.inl HR.out.og) 3 _), (HL.out.below HK.out).keep (fun j _ ho => heap_setCell_other wk ⟨gs, 3, none⟩ j _ (fun e => HBO.out j ho (by rw [e]; exact HR.out.og))) (by simp) (fun _ _ h => h), HR.out.om⟩
      generalize wk.setCell ⟨gs, 3, none⟩ (.int .i64 (us + mo)) = wx at HX ⊢
      go_wp2_with fail
      go_meet
      case rel => exact HX
    · go_simp
      refine (HMO.out _ HK.out).mono ?_
      rintro e6 w6 ⟨rfl, hb6⟩
      replace HK : Bx (Below w.heap.size w w6) := ⟨hb6⟩
      clear hb6
      obtain ⟨wk, hwk⟩ : ∃ x, x = w6 := ⟨_, rfl⟩
      subst hwk
      refine hK.out _ _ hk (fun _ => ?_)
      clear hK K
      try simp only [Act.put, List.setIfInBounds_toArray, List.set_cons_zero, List.set_cons_succ]
      refine wpAnyH_ready (rs := [3]) (by decide +kernel) (by simp) ?_
      refine AllReadyH.cons (o := ⟨some 9, .load 3 (.tmp 8), 3, "store.go:205", #[⟨2, .data⟩], none⟩) rfl (fun K hK => ?_) AllReadyH.nil
      rw [if_pos (by rfl)]
      have k3 : wk.cell? ⟨gs, 3, none⟩ = some (.int .i64 us) := (HK.out.cell (p := ⟨gs, 3, none⟩) (HR.out.lt _ HR.out.og)).trans HR.out.c3
      go_simp
      clear k3
      refine hK.out _ _ hk (fun _ => ?_)
      clear hK K
      try simp only [Act.put, List.setIfInBounds_toArray, List.set_cons_zero, List.set_cons_succ]
      refine wpAnyH_take (i := 7) (oi := ⟨some 13, .binOp .add 3 (.tmp 9) (.tmp 12) 3, 3, "store.go:205", #[⟨3, .data⟩, ⟨6, .data⟩], none⟩) (v := ?vdo012) rfl (by kernel_rfl) (by kernel_rfl) (by kernel_rfl) (fun _ _ _ h => h) (Or.inl ⟨by rfl, ?ydo012⟩) hk ?rdo012
      case ydo012 => (intro w hSw; (try dsimp only at hSw); go_simp; first | done | with_reducible rfl)
      simp only [Act.put, List.setIfInBounds_toArray, List.set_cons_zero, List.set_cons_succ]
      refine wpAnyH_take (i := 8) (oi := ⟨some 14, .nilCheck (.tmp 6), 0, "store.go:205", #[⟨0, .data⟩, ⟨0, .phase⟩, ⟨1, .phase⟩, ⟨2, .phase⟩, ⟨3, .phase⟩, ⟨4, .phase⟩, ⟨5, .phase⟩, ⟨6, .phase⟩, ⟨7, .phase⟩], none⟩) (v := ?vdo013) rfl (by kernel_rfl) (by kernel_rfl) (by kernel_rfl) (fun _ _ _ h => h) (Or.inl ⟨by rfl, ?ydo013⟩) hk ?rdo013
      case ydo013 => (intro w hSw; (try dsimp only at hSw); go_simp; first | done | with_reducible rfl)
      simp only [Act.put, List.setIfInBounds_toArray, List.set_cons_zero, List.set_cons_succ]
      refine wpAnyH_take (i := 9) (oi := ⟨some 15, .fieldAddr 86 (.tmp 14) 3, 0, "store.go:205", #[⟨8, .data⟩, ⟨0, .phase⟩, ⟨1, .phase⟩, ⟨2, .phase⟩, ⟨3, .phase⟩, ⟨4, .phase⟩, ⟨5, .phase⟩, ⟨6, .phase⟩, ⟨7, .phase⟩], none⟩) (v := ?vdo014) rfl (by kernel_rfl) (by kernel_rfl) (by kernel_rfl) (fun _ _ _ h => h) (Or.inl ⟨by rfl, ?ydo014⟩) hk ?rdo014
      case ydo014 => (intro w hSw; (try dsimp only at hSw); go_simp; first | done | with_reducible rfl)
      simp only [Act.put, List.setIfInBounds_toArray, List.set_cons_zero, List.set_cons_succ]
      refine wpAnyH_ready (rs := [10]) (by decide +kernel) (by simp) ?_
      refine AllReadyH.cons (o := ⟨none, .store 3 (.tmp 15) (.tmp 13), 0, "store.go:205", #[⟨9, .data⟩, ⟨7, .data⟩, ⟨6, .chain⟩, ⟨0, .phase⟩, ⟨1, .phase⟩, ⟨2, .phase⟩, ⟨3, .phase⟩, ⟨4, .phase⟩, ⟨5, .phase⟩, ⟨6, .phase⟩, ⟨7, .phase⟩], none⟩) rfl (fun K hK => ?_) AllReadyH.nil
      rw [if_pos (by rfl)]
      have k3 : wk.cell? ⟨gs, 3, none⟩ = some (.int .i64 us) := (HK.out.cell (p := ⟨gs, 3, none⟩) (HR.out.lt _ HR.out.og)).trans HR.out.c3
      have f3 : wk.frozen? ⟨gs, 3, none⟩ = false := (HR.out.keep (fun k hk => HK.out.block k (HR.out.lt k hk)) HK.out.size).fr 3
      go_simp
      clear k3 f3
      refine hK.out _ _ hk (fun _ => ?_)
      clear hK K
      try simp only [Act.put, List.setIfInBounds_toArray, List.set_cons_zero, List.set_cons_succ]
      refine wpAnyH_done (by decide +kernel) ?_ _
      have HX : Bx (SdS w (wk.setCell ⟨gs, 3, none⟩ (.int .i64 (us + mo))) gs gl gm q (us + mo) own own B ao len cap L M es clock Z) := ⟨(HR.out.keep (fun k hk => HK.out.block k (HR.out.lt k hk)) HK.out.size).setUsed _, Did.same ((Kept.of_below HK.out).setCell (.inl HR.out.og) 3 _), (HL.out.below HK.out).keep (fun j _ ho => heap_setCell_other wk ⟨gs, 3, none⟩ j _ (fun e => HBO.out j ho (by rw [e]; exact HR.out.og))) (by simp) (fun _ _ h => h), HR.out.om⟩
      generalize wk.setCell ⟨gs, 3, none⟩ (.int .i64 (us + mo)) = wx at HX ⊢
      go_wp2_with fail
      go_meet
      case rel => exact HX
  case rest =>
    have HX := hcut
    clear hcut HK HMO HR HL
    have hst : ∃ (k : Nat) (own2 : Nat → Prop), k ≤ len ∧ (0 : Int) = k ∧ Bx (Sds w wc gs gl q (us + mo) own own2 B ao len cap L (doM M (L.take k))) := ⟨0, own, Nat.zero_le _, rfl, ⟨gm, es, clock, Z, HX.out⟩⟩
    clear HX
    go_wp2_with fail
    go_loopw [18] (fun i wr => ∃ (k : Nat) (own2 : Nat → Prop), k ≤ len ∧ i = .int .i64 k ∧ Bx (Sds w wr gs gl q (us + mo) own own2 B ao len cap L (doM M (L.take k)))) (fun i _ => len - (intOf i).toNat)
    case atStart =>
      obtain ⟨k, own2, h1, h2, h3⟩ := hst
      exact ⟨k, own2, h1, by rw [h2], h3⟩
    case round =>
      clear hst
      obtain ⟨k, own2, hk2, rfl, HS⟩ := hrel
      by_cases hlt : k < len
      · have hkI : (k : Int) < (len : Int) := by omega
        have hkL : k < L.length := by rw [HLEN.out]; exact hlt
        have HST : Bx (doM M (L.take (k + 1)) = upd (doM M (L.take k)) L[k]) := ⟨doM_step M L k hkL⟩
        have hck := HC.out _ (List.getElem_mem hkL)
        obtain ⟨gm, es, clock, Z, hX⟩ := HS.out
        obtain ⟨b, off, ai, ni, ci, rfl, hbl, hB, h1, h2, h3, hbt, hlo⟩ := hX.lst.chg k hlt
        have hv40 := hck.v
        have hvl := hbt.len_eq
        generalize hcc : L[k] = cc at h1 h2 hbt hck hv40 hvl HST
        obtain ⟨kk, dd, vv⟩ := cc
        simp only at h1 h2 hbt hv40 hvl
        have hba : Below wr.heap.size wr (wr.alloc (.cells #[.string kk, .bool dd, .slice ai ni ci] 48)) := (Below.refl _ _).alloc (Nat.le_refl _) _
        have HXA := Bx.mk (hX.below hba)
        have HVA := Bx.mk (hbt.below hba)
        have HVB : Bx (0 < ni → ∀ p, ai = some p → B p.block) := ⟨hlo⟩
        have hra : (wr.alloc (.cells #[.string kk, .bool dd, .slice ai ni ci] 48)).heap[wr.heap.size]? = some (.cells #[.string kk, .bool dd, .slice ai ni ci] 48 (0, 0)) := heap_alloc_new wr _
        obtain ⟨gc, HGC⟩ : ∃ gc, Bx (gc = wr.heap.size) := ⟨_, ⟨rfl⟩⟩
        rw [← HGC.out] at hra
        have HRA0 := Bx.mk hra
        have HGN : Bx (¬ own2 gc ∧ gc ≠ gm ∧ gc ≠ gs) := ⟨fun ho => by have := hX.st.lt gc ho; have := HGC.out; omega, fun e => by have := hX.st.lt gm hX.st.om; have := HGC.out; omega, fun e => by have := hX.st.lt gs hX.st.og; have := HGC.out; omega⟩
        clear hcc hbt hlo hX HS hba hra
        by_cases hdl : dd = true
        · subst hdl
          go_wp2_with fail
          rw [← HGC.out]
          generalize wr.alloc (.cells #[.string kk, .bool true, .slice ai ni ci] 48) = wa at HXA HVA HRA0 ⊢
          have HX := Bx.mk HXA.out.drew
          have HRA : Bx (wa.drew.heap[gc]? = some (.cells #[.string kk, .bool true, .slice ai ni ci] 48 (0, 0))) := ⟨HRA0.out⟩
          have hk : wa.drew.cell? ⟨gs, 2, none⟩ = some (.map (some gm)) ∧ wa.drew.cell? ⟨gc, 0, none⟩ = some (.string kk) ∧ wa.drew.cell? ⟨gc, 2, none⟩ = some (.slice ai ni ci) := ⟨HX.out.st.c2, cell_of_row wa.drew gc 0 _ _ (0, 0) HRA.out, cell_of_row wa.drew gc 2 _ _ (0, 0) HRA.out⟩
          clear HXA HRA0 HVA h1 h2 h3
          refine wp_region_held_drew (S := fun W => W.cell? ⟨gs, 2, none⟩ = some (.map (some gm)) ∧ W.cell? ⟨gc, 0, none⟩ = some (.string kk) ∧ W.cell? ⟨gc, 2, none⟩ = some (.slice ai ni ci)) (by kernel_rfl) hk (fun _ => ?_)
          generalize hwk : wa.drew = wk at hk HX HRA ⊢
          clear hwk
          refine wpAnyH_take (i := 0) (oi := ⟨some 24, .move (.tmp 0), 32, "store.go:208", #[], none⟩) (v := ?vdo51) rfl (by kernel_rfl) (by kernel_rfl) (by kernel_rfl) (fun _ _ _ h => h) (Or.inl ⟨by rfl, ?ydo51⟩) hk ?rdo51
          case ydo51 => (intro w hSw; (try dsimp only at hSw); go_simp; first | done | with_reducible rfl)
          simp only [Act.put, List.setIfInBounds_toArray, List.set_cons_zero, List.set_cons_succ]
          refine wpAnyH_take (i := 1) (oi := ⟨some 25, .nilCheck (.tmp 24), 0, "store.go:208", #[⟨0, .data⟩], none⟩) (v := ?vdo52) rfl (by kernel_rfl) (by kernel_rfl) (by kernel_rfl) (fun _ _ _ h => h) (Or.inl ⟨by rfl, ?ydo52⟩) hk ?rdo52
          case ydo52 => (intro w hSw; (try dsimp only at hSw); go_simp; first | done | with_reducible rfl)
          simp only [Act.put, List.setIfInBounds_toArray, List.set_cons_zero, List.set_cons_succ]
          refine wpAnyH_take (i := 2) (oi := ⟨some 26, .fieldAddr 86 (.tmp 25) 2, 0, "store.go:208", #[⟨1, .data⟩], none⟩) (v := ?vdo53) rfl (by kernel_rfl) (by kernel_rfl) (by kernel_rfl) (fun _ _ _ h => h) (Or.inl ⟨by rfl, ?ydo53⟩) hk ?rdo53
          case ydo53 => (intro w hSw; (try dsimp only at hSw); go_simp; first | done | with_reducible rfl)
          simp only [Act.put, List.setIfInBounds_toArray, List.set_cons_zero, List.set_cons_succ]
          refine wpAnyH_take (i := 3) (oi := ⟨some 27, .load 84 (.tmp 26), 84, "store.go:208", #[⟨2, .data⟩], none⟩) (v := ?vdo54) rfl (by kernel_rfl) (by kernel_rfl) (by kernel_rfl) (fun _ _ _ h => h) (Or.inl ⟨by rfl, ?ydo54⟩) hk ?rdo54
          case ydo54 => (intro w hSw; have hcw := hSw.1; clear hSw; go_simp; first | done | with_reducible rfl)
          simp only [Act.put, List.setIfInBounds_toArray, List.set_cons_zero, List.set_cons_succ]
          refine wpAnyH_take (i := 4) (oi := ⟨some 28, .fieldAddr 48 (.tmp 5) 0, 0, "store.go:208", #[], none⟩) (v := ?vdo55) rfl (by kernel_rfl) (by kernel_rfl) (by kernel_rfl) (fun _ _ _ h => h) (Or.inl ⟨by rfl, ?ydo55⟩) hk ?rdo55
          case ydo55 => (intro w hSw; (try dsimp only at hSw); go_simp; first | done | with_reducible rfl)
          simp only [Act.put, List.setIfInBounds_toArray, List.set_cons_zero, List.set_cons_succ]
          refine wpAnyH_take (i := 5) (oi := ⟨some 29, .load 9 (.tmp 28), 9, "store.go:208", #[⟨4, .data⟩], none⟩) (v := ?vdo56) rfl (by kernel_rfl) (by kernel_rfl) (by kernel_rfl) (fun _ _ _ h => h) (Or.inl ⟨by rfl, ?ydo56⟩) hk ?rdo56
          case ydo56 => (intro w hSw; have hcw := hSw.2.1; clear hSw; go_simp; first | done | with_reducible rfl)
          simp only [Act.put, List.setIfInBounds_toArray, List.set_cons_zero, List.set_cons_succ]
          refine wpAnyH_ready (rs := [6]) (by decide +kernel) (by simp) ?_
          refine AllReadyH.cons (o := ⟨none, .call { callee := .builtin Builtin.delete, args := #[.tmp 27, .tmp 29], argTypes := #[84, 9] }, 0, "store.go:208", #[⟨3, .data⟩, ⟨5, .data⟩], none⟩) rfl (fun K hK => ?_) AllReadyH.nil
          rw [if_pos (by rfl)]
          obtain ⟨es2, clock2, Z2, hdel, hst2⟩ := HX.out.st.del vv 0 hck
          go_simp
          have HX2 := Bx.mk (HX.out.set hst2 (fun k hk => .inl hk) HBO.out)
          replace hk : (setM wk gm es2 clock2).cell? ⟨gs, 2, none⟩ = some (.map (some gm)) ∧ (setM wk gm es2 clock2).cell? ⟨gc, 0, none⟩ = some (.string kk) ∧ (setM wk gm es2 clock2).cell? ⟨gc, 2, none⟩ = some (.slice ai ni ci) := ⟨(cell_setM wk es2 clock2 HX.out.st.ne 2).trans hk.1, (cell_setM wk es2 clock2 HGN.out.2.1 0).trans hk.2.1, (cell_setM wk es2 clock2 HGN.out.2.1 2).trans hk.2.2⟩
          clear hdel hst2 HX HRA
          refine hK.out _ _ hk (fun _ => ?_)
          clear hK K
          try simp only [Act.put, List.setIfInBounds_toArray, List.set_cons_zero, List.set_cons_succ]
          refine wpAnyH_done (by decide +kernel) ?_ _
          have HFN : Bx (Sds w (setM wk gm es2 clock2) gs gl q (us + mo) own own2 B (some ⟨b, off, none⟩) len cap L (doM M (L.take (k + 1)))) := ⟨by rw [HST.out]; exact ⟨gm, es2, clock2, Z2, HX2.out⟩⟩
          clear hk HX2 HST hck
          generalize setM wk gm es2 clock2 = w9 at HFN ⊢
          go_wp2_with fail
          go_roundw
          case rel => exact ⟨k + 1, _, by omega, by go_num, HFN⟩
          case measure => simp [intOf]; omega
        · obtain rfl : dd = false := by simpa using hdl
          clear hdl
          go_wp2_with fail
          rw [← HGC.out]
          generalize wr.alloc (.cells #[.string kk, .bool false, .slice ai ni ci] 48) = wa at HXA HVA HRA0 ⊢
          have HX := Bx.mk HXA.out.drew
          have HRA : Bx (wa.drew.heap[gc]? = some (.cells #[.string kk, .bool false, .slice ai ni ci] 48 (0, 0))) := ⟨HRA0.out⟩
          have hk : wa.drew.cell? ⟨gs, 2, none⟩ = some (.map (some gm)) ∧ wa.drew.cell? ⟨gc, 0, none⟩ = some (.string kk) ∧ wa.drew.cell? ⟨gc, 2, none⟩ = some (.slice ai ni ci) := ⟨HX.out.st.c2, cell_of_row wa.drew gc 0 _ _ (0, 0) HRA.out, cell_of_row wa.drew gc 2 _ _ (0, 0) HRA.out⟩
          have HVW : Bx (Bts wa.drew ai ni ci vv) := ⟨HVA.out.drewN 1⟩
          clear HXA HRA0 HVA h1 h2 h3
          refine wp_region_held_drew (S := fun W => W.cell? ⟨gs, 2, none⟩ = some (.map (some gm)) ∧ W.cell? ⟨gc, 0, none⟩ = some (.string kk) ∧ W.cell? ⟨gc, 2, none⟩ = some (.slice ai ni ci)) (by kernel_rfl) hk (fun _ => ?_)
          generalize hwk : wa.drew = wk at hk HX HRA HVW ⊢
          clear hwk
          refine wpAnyH_take (i := 0) (oi := ⟨some 30, .move (.tmp 0), 32, "store.go:210", #[], none⟩) (v := ?vdo61) rfl (by kernel_rfl) (by kernel_rfl) (by kernel_rfl) (fun _ _ _ h => h) (Or.inl ⟨by rfl, ?ydo61⟩) hk ?rdo61
          case ydo61 => (intro w hSw; (try dsimp only at hSw); go_simp; first | done | with_reducible rfl)
          simp only [Act.put, List.setIfInBounds_toArray, List.set_cons_zero, List.set_cons_succ]
          refine wpAnyH_take (i := 1) (oi := ⟨some 31, .nilCheck (.tmp 30), 0, "store.go:210", #[⟨0, .data⟩], none⟩) (v := ?vdo62) rfl (by kernel_rfl) (by kernel_rfl) (by kernel_rfl) (fun _ _ _ h => h) (Or.inl ⟨by rfl, ?ydo62⟩) hk ?rdo62
          case ydo62 => (intro w hSw; (try dsimp only at hSw); go_simp; first | done | with_reducible rfl)
          simp only [Act.put, List.setIfInBounds_toArray, List.set_cons_zero, List.set_cons_succ]
          refine wpAnyH_take (i := 2) (oi := ⟨some 32, .fieldAddr 86 (.tmp 31) 2, 0, "store.go:210", #[⟨1, .data⟩], none⟩) (v := ?vdo63) rfl (by kernel_rfl) (by kernel_rfl) (by kernel_rfl) (fun _ _ _ h => h) (Or.inl ⟨by rfl, ?ydo63⟩) hk ?rdo63
          case ydo63 => (intro w hSw; (try dsimp only at hSw); go_simp; first | done | with_reducible rfl)
          simp only [Act.put, List.setIfInBounds_toArray, List.set_cons_zero, List.set_cons_succ]
          refine wpAnyH_take (i := 3) (oi := ⟨some 33, .load 84 (.tmp 32), 84, "store.go:210", #[⟨2, .data⟩], none⟩) (v := ?vdo64) rfl (by kernel_rfl) (by kernel_rfl) (by kernel_rfl) (fun _ _ _ h => h) (Or.inl ⟨by rfl, ?ydo64⟩) hk ?rdo64
          case ydo64 => (intro w hSw; have hcw := hSw.1; clear hSw; go_simp; first | done | with_reducible rfl)
          simp only [Act.put, List.setIfInBounds_toArray, List.set_cons_zero, List.set_cons_succ]
          refine wpAnyH_take (i := 4) (oi := ⟨some 34, .fieldAddr 48 (.tmp 5) 0, 0, "store.go:210", #[], none⟩) (v := ?vdo65) rfl (by kernel_rfl) (by kernel_rfl) (by kernel_rfl) (fun _ _ _ h => h) (Or.inl ⟨by rfl, ?ydo65⟩) hk ?rdo65
          case ydo65 => (intro w hSw; (try dsimp only at hSw); go_simp; first | done | with_reducible rfl)
          simp only [Act.put, List.setIfInBounds_toArray, List.set_cons_zero, List.set_cons_succ]
          refine wpAnyH_take (i := 5) (oi := ⟨some 35, .load 9 (.tmp 34), 9, "store.go:210", #[⟨4, .data⟩], none⟩) (v := ?vdo66) rfl (by kernel_rfl) (by kernel_rfl) (by kernel_rfl) (fun _ _ _ h => h) (Or.inl ⟨by rfl, ?ydo66⟩) hk ?rdo66
          case ydo66 => (intro w hSw; have hcw := hSw.2.1; clear hSw; go_simp; first | done | with_reducible rfl)
          simp only [Act.put, List.setIfInBounds_toArray, List.set_cons_zero, List.set_cons_succ]
          refine wpAnyH_take (i := 6) (oi := ⟨some 36, .fieldAddr 48 (.tmp 5) 2, 0, "store.go:210", #[], none⟩) (v := ?vdo67) rfl (by kernel_rfl) (by kernel_rfl) (by kernel_rfl) (fun _ _ _ h => h) (Or.inl ⟨by rfl, ?ydo67⟩) hk ?rdo67
          case ydo67 => (intro w hSw; (try dsimp only at hSw); go_simp; first | done | with_reducible rfl)
          simp only [Act.put, List.setIfInBounds_toArray, List.set_cons_zero, List.set_cons_succ]
          refine wpAnyH_take (i := 7) (oi := ⟨some 37, .load 46 (.tmp 36), 46, "store.go:210", #[⟨6, .data⟩], none⟩) (v := ?vdo68) rfl (by kernel_rfl) (by kernel_rfl) (by kernel_rfl) (fun _ _ _ h => h) (Or.inl ⟨by rfl, ?ydo68⟩) hk ?rdo68
          case ydo68 => (intro w hSw; have hcw := hSw.2.2; clear hSw; go_simp; first | done | with_reducible rfl)
          simp only [Act.put, List.setIfInBounds_toArray, List.set_cons_zero, List.set_cons_succ]
          refine wpAnyH_ready (rs := [8]) (by decide +kernel) (by simp) ?_
          refine AllReadyH.cons (o := ⟨some 38, .call { callee := .value (.func 56), args := #[.tmp 37], argTypes := #[46] }, 46, "store.go:210", #[⟨7, .data⟩], none⟩) rfl (fun K hK => ?_) AllReadyH.nil
          go_simp
          refine (clone_any ai ni ci vv _ HVW.out (by omega)).mono ?_
          rintro e7 w7 ⟨v7, rfl, hown7, hb7⟩
          obtain ⟨a7, c7, rfl, hm7⟩ := Bts.of_owns hown7 HVW.out.byt
          have HM7 := Bx.mk hm7
          have HX7 := Bx.mk (HX.out.below hb7)
          have HGL : Bx (gc < wk.heap.size) := ⟨(Array.getElem?_eq_some_iff.1 HRA.out).1⟩
          have HN7 : Bx (0 < ni → ∀ p, a7 = some p → (own2 p.block ∨ (wk.heap.size ≤ p.block ∧ p.block < w7.heap.size)) ∧ p.block ≠ gs ∧ p.block ≠ gm) := ⟨fun hp p e => by
            have h1 := own_ge hown7 p e
            have h2 := HX.out.st.lt gs HX.out.st.og
            have h3 := HX.out.st.lt gm HX.out.st.om
            exact ⟨.inr h1, by omega, by omega⟩⟩
          have HSZ : Bx (w.heap.size ≤ wk.heap.size ∧ wk.heap.size ≤ w7.heap.size) := ⟨HX.out.did.kept.size, hb7.size⟩
          replace hk : w7.cell? ⟨gs, 2, none⟩ = some (.map (some gm)) ∧ w7.cell? ⟨gc, 0, none⟩ = some (.string kk) ∧ w7.cell? ⟨gc, 2, none⟩ = some (.slice ai ni ci) := ⟨HX7.out.st.c2, (hb7.cell (p := ⟨gc, 0, none⟩) HGL.out).trans hk.2.1, (hb7.cell (p := ⟨gc, 2, none⟩) HGL.out).trans hk.2.2⟩
          clear hown7 hb7 hm7
          refine hK.out _ _ hk (fun _ => ?_)
          clear hK K
          try simp only [Act.put, List.setIfInBounds_toArray, List.set_cons_zero, List.set_cons_succ]
          refine wpAnyH_ready (rs := [9]) (by decide +kernel) (by simp) ?_
          refine AllReadyH.cons (o := ⟨none, .mapUpdate 84 (.tmp 33) (.tmp 35) (.tmp 38), 0, "store.go:210", #[⟨3, .data⟩, ⟨5, .data⟩, ⟨8, .data⟩, ⟨8, .chain⟩, ⟨0, .phase⟩, ⟨1, .phase⟩, ⟨2, .phase⟩, ⟨3, .phase⟩, ⟨4, .phase⟩, ⟨5, .phase⟩, ⟨6, .phase⟩, ⟨7, .phase⟩, ⟨8, .phase⟩], none⟩) rfl (fun K hK => ?_) AllReadyH.nil
          rw [if_pos (by rfl)]
          obtain ⟨es2, clock2, Z2, hupd, hst2⟩ := HX7.out.st.put (own2 := fun k => own2 k ∨ (wk.heap.size ≤ k ∧ k < w7.heap.size)) hck HM7.out HN7.out (fun _ h => .inl h) (fun k hk => by rcases hk with h1 | h1; exact HX7.out.st.lt k h1; exact h1.2)
          go_simp
          have HX2 := Bx.mk (HX7.out.set hst2 (fun k hk => by rcases hk with h1 | h1; exact .inl h1; exact .inr ⟨by have := HSZ.out.1; omega, h1.2⟩) HBO.out)
          replace hk : (setM w7 gm es2 clock2).cell? ⟨gs, 2, none⟩ = some (.map (some gm)) ∧ (setM w7 gm es2 clock2).cell? ⟨gc, 0, none⟩ = some (.string kk) ∧ (setM w7 gm es2 clock2).cell? ⟨gc, 2, none⟩ = some (.slice ai ni ci) := ⟨(cell_setM w7 es2 clock2 HX.out.st.ne 2).trans hk.1, (cell_setM w7 es2 clock2 HGN.out.2.1 0).trans hk.2.1, (cell_setM w7 es2 clock2 HGN.out.2.1 2).trans hk.2.2⟩
          clear hupd hst2 HX HX7 HRA HM7 HN7 HVW
          refine hK.out _ _ hk (fun _ => ?_)
          clear hK K
          try simp only [Act.put, List.setIfInBounds_toArray, List.set_cons_zero, List.set_cons_succ]
          refine wpAnyH_done (by decide +kernel) ?_ _
          have HFN : Bx (Sds w (setM w7 gm es2 clock2) gs gl q (us + mo) own (fun k => own2 k ∨ (wk.heap.size ≤ k ∧ k < w7.heap.size)) B (some ⟨b, off, none⟩) len cap L (doM M (L.take (k + 1)))) := ⟨by rw [HST.out]; exact ⟨gm, es2, clock2, Z2, HX2.out⟩⟩
          clear hk HX2 HST hck
          generalize setM w7 gm es2 clock2 = w9 at HFN ⊢
          go_wp2_with fail
          go_roundw
          case rel => exact ⟨k + 1, _, by omega, by go_num, HFN⟩
          case measure => simp [intOf]; omega
      · have hkI : ¬ (k : Int) < (len : Int) := by omega
        have HF : Bx (doM M (L.take k) = doM M L) := ⟨by rw [List.take_of_length_le (by rw [HLEN.out]; omega)]⟩
        rw [HF.out] at HS
        obtain ⟨gm, es, clock, Z, hX⟩ := HS.out
        have HFIN : Bx (∃ own2, St wr gs gl q (us + mo) own2 (doM M L) ∧ Did own w wr own2) := ⟨own2, ⟨gm, es, clock, Z, hX.st⟩, hX.did⟩
        clear hX HS
        go_wp2_with fail
        go_end0
        exact ⟨rfl, HFIN.out⟩
end Go.Proofs.YtjnjokbdoendkaaGreat
