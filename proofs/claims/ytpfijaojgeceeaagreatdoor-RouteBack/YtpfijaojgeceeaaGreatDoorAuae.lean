/- What pieces ask by a row: the program's walk. The target by which something is asked. -/
import Derived.Test.YtpfijaojgeceeaaGreatDoorAuag
import Derived.Test.YtpfijaojgeceeaaGreatDoorAskCut
import Derived.Shelf.Strings.OnBuilder
namespace Go.Proofs.YtpfijaojgeceeaaGreatDoor
open Go.RowKit
set_option linter.unusedVariables false

/-- an ask's variable -/
def AskB (w : World) (g : Nat) (a : As) (ab : Option Addr) (n c : Nat) : Prop := w.heap[g]? = some (.cells (askV a ab n c) 24 (0, 0))
set_option maxRecDepth 100000 in
theorem results_ask {fn : Func} {s p : Tmp} (h : fn.results = #[.cell p 24, .tmp s]) (tmps : Array Value) (w : World) (g : Nat) (cs : Array Value) (v : Value)
    (hs : tmps.getD s undef = v) (hp : tmps.getD p undef = .pointer (some ⟨g, 0, none⟩)) (hg : w.heap[g]? = some (.cells cs 24 (0, 0))) (hi : (Tryz.prog.info? 24).map (·.size) = some cs.size) :
    (results fn tmps).run Tryz.prog w = .ok (.tuple #[.agg cs, v]) w := by
  have hp' : tmps[p]?.getD undef = .pointer (some ⟨g, 0, none⟩) := by simpa using hp
  have hs' : tmps[s]?.getD undef = v := by simpa using hs
  simp [results, h, hp', hs', asAddr, run_loadVar_row w g 24 24 cs (0, 0) _ hg Tryz.underlying24 rfl hi]
set_option maxRecDepth 100000 in
theorem row_info : (Tryz.prog.info? 50).map (·.size) = some 4 := by kernel_rfl
set_option maxRecDepth 100000 in
/-- a row of the table is written into a variable, an ask likewise -/
theorem askB_store {w : World} {g : Nat} {cs : Array Value} (h : w.heap[g]? = some (.cells cs 24 (0, 0))) (hs : cs.size = 6) (a : As) (ab : Option Addr) (n c : Nat) : AskB (w.setCells g 0 (askV a ab n c).toList) g a ab n c := heap_stored h (by rw [hs]; rfl)
/-- what is answered -/
def RdRP (r : Rt) (Q : List ByteArray) (e : Ending) : Prop := e = .returned (.tuple #[.agg (askV ((rowRd r Q).getD as0) none 0 0), .bool (rowRd r Q).isSome])
set_option maxRecDepth 100000 in
theorem rdr_no {r : Rt} {Q : List ByteArray} {e : Ending} (h : rowRd r Q = none) (he : e = .returned (.tuple #[.agg (askV as0 none 0 0), .bool false])) : RdRP r Q e := by unfold RdRP; rw [h]; exact he
set_option maxRecDepth 100000 in
theorem rdr_yes {r : Rt} {Q : List ByteArray} {a : As} {e : Ending} (h : rowRd r Q = some a) (he : e = .returned (.tuple #[.agg (askV a none 0 0), .bool true])) : RdRP r Q e := by unfold RdRP; rw [h]; exact he
set_option maxRecDepth 100000 in
theorem rdAll_step {a : As} {P Q : List ByteArray} {k : Nat} (hk : k < P.length) (hl : Q.length = P.length) : rdAll a (P.drop k) (Q.drop k) = if (rdPc a (P.getD k ⟨#[]⟩) (Q.getD k ⟨#[]⟩)).2 = true then rdAll (rdPc a (P.getD k ⟨#[]⟩) (Q.getD k ⟨#[]⟩)).1 (P.drop (k + 1)) (Q.drop (k + 1)) else none := by
  rw [List.drop_eq_getElem_cons hk, List.drop_eq_getElem_cons (by omega : k < Q.length)]
  rw [List.getD_eq_getElem?_getD, List.getD_eq_getElem?_getD, List.getElem?_eq_getElem hk, List.getElem?_eq_getElem (by omega : k < Q.length)]
  rfl
set_option maxRecDepth 100000 in
theorem askV_all (a : As) (ab : Option Addr) (n c : Nat) : (askV a ab n c).all (·.oneCell') = true := by simp [Value.oneCell']
set_option maxRecDepth 100000 in
set_option maxHeartbeats 4000000 in
set_option maxRecDepth 100000 in
theorem read_any (r : Rt) (qa : Option Addr) (nq cq : Nat) (Q : List ByteArray) (w : World) (hs : r.f.size ≤ 20) (hP4 : (ptsR r).length ≤ 4) (hQ : Txt w qa nq Q) (hQs : ∀ q ∈ Q, q.size ≤ 1000000) (hE : RtE w) :
    Calls Tryz.prog 19 #[rtV r, .slice qa nq cq] w fun e w' => RdRP r Q e ∧ Below w.heap.size w w' := by
  obtain ⟨hROW, hRZ, hsz⟩ := two_new18 w (.cells #[.int .i64 r.k, .string r.m, .string r.f, .bool r.h] 50) (.cells askZ 24)
  have hB1 : Below w.heap.size w ((w.alloc (.cells #[.int .i64 r.k, .string r.m, .string r.f, .bool r.h] 50)).alloc (.cells askZ 24)) := ((Below.refl _ _).alloc (Nat.le_refl _) _).alloc (by simp) _
  have c0 : ((w.alloc (.cells #[.int .i64 r.k, .string r.m, .string r.f, .bool r.h] 50)).alloc (.cells askZ 24)).cell? ⟨w.heap.size, 0, none⟩ = some (.int .i64 r.k) := by rw [cell_of_row _ _ 0 _ _ (0, 0) hROW]; rfl
  have HC : Bx (∀ W, Calls Tryz.prog 29 #[.agg #[.int .i64 r.k, .string r.m, .string r.f, .bool r.h]] W fun e w' => ∃ v, e = .returned v ∧ w'.ownsRow W.heap.size 9 1 v (ptsR r).length (svT (ptsR r)) ∧ Below W.heap.size W w') := ⟨fun W => parts_any r W hs⟩
  have HRR : Bx (∀ a, rdAll ⟨r.k, ⟨#[]⟩, ⟨#[]⟩, [], 0, 0⟩ (ptsR r) Q = a → Q.length = (ptsR r).length → rowRd r Q = a) := ⟨fun a h1 h2 => by unfold rowRd; rw [if_pos h2]; exact h1⟩
  have HNL : Bx (Q.length ≠ (ptsR r).length → rowRd r Q = none) := ⟨fun h => by unfold rowRd; rw [if_neg h]⟩
  have HROW := Bx.mk hROW
  have HRZ := Bx.mk hRZ
  have HB1 := Bx.mk hB1
  have HE := Bx.mk hE
  have HQ := Bx.mk hQ
  have HQS := Bx.mk hQs
  show Calls Tryz.prog 19 #[.agg #[.int .i64 r.k, .string r.m, .string r.f, .bool r.h], .slice qa nq cq] w fun e w' => RdRP r Q e ∧ Below w.heap.size w w'
  generalize hPP : ptsR r = P at *
  clear hPP hROW hRZ hB1 hE hQ hQs hsz hs
  generalize r.f = rf at *
  generalize hrk : r.k = rk at *
  generalize r.m = rm at *
  generalize r.h = rh at *
  clear hrk
  generalize hw1 : (w.alloc (.cells #[.int .i64 rk, .string rm, .string rf, .bool rh] 50)).alloc (.cells askZ 24) = W1 at *
  unfold askZ at hw1
  go_enter Tryz.func19, Tryz.ntmps19
  go_upto_region 1 with fail
  clear hw1
  go_wp2_with (refine wpList_load_row rfl 50 (.tmp 2) rfl w.heap.size rfl 50 #[.int .i64 rk, .string rm, .string rf, .bool rh] (0, 0) _ HROW.out Tryz.underlying50 rfl row_info ?_)
  refine (HC.out _).mono ?_
  rintro e w2 ⟨v, rfl, ho, hb2⟩
  obtain ⟨pa, cp, rfl, hTP⟩ := Txt.of_owns ho
  have hB2 := HB1.out.trans (hb2.mono HB1.out.size)
  have HB2 : Bx (Below w.heap.size w w2) := ⟨hB2⟩
  have hZ2 : w2.heap[w.heap.size + 1]? = some (.cells askZ 24 (0, 0)) := by rw [hb2.block _ (Array.getElem?_eq_some_iff.1 HRZ.out).1]; exact HRZ.out
  have hK2 : w2.cell? ⟨w.heap.size, 0, none⟩ = some (.int .i64 rk) := by rw [hb2.cell (p := ⟨w.heap.size, 0, none⟩) (block_lt_of_cell c0)]; exact c0
  have hgt : w.heap.size + 1 < w2.heap.size := (Array.getElem?_eq_some_iff.1 hZ2).1
  have HTP := Bx.mk hTP
  have HQ2 : Bx (Txt w2 qa nq Q) := ⟨HQ.out.below HB2.out⟩
  have HE2 : Bx (RtE w2) := ⟨HE.out.below HB2.out⟩
  have HZO : Bx (askZ.all (·.oneCell') = true) := ⟨by unfold askZ; simp [Value.oneCell']⟩
  clear hTP hB2 ho hb2 c0 HRZ HROW HB1 HQ HE
  have HZ2 := Bx.mk hZ2
  clear hZ2
  by_cases hl : nq = P.length
  · have gl : ((nq : Int) != (P.length : Int)) = false := by rw [hl]; simp
    have HQL : Bx (Q.length = P.length) := ⟨by rw [HQ2.out.len_eq, hl]⟩
    have HL := Bx.mk hl
    clear hl HNL
    have HN : Bx ((w2.alloc (.cells (askV ⟨rk, ⟨#[]⟩, ⟨#[]⟩, [], 0, 0⟩ none 0 0) 24)).heap[w2.heap.size]? = some (.cells (askV ⟨rk, ⟨#[]⟩, ⟨#[]⟩, [], 0, 0⟩ none 0 0) 24 (0, 0))) := ⟨heap_alloc_new w2 _⟩
    have HNB : Bx (Below w2.heap.size w2 (w2.alloc (.cells (askV ⟨rk, ⟨#[]⟩, ⟨#[]⟩, [], 0, 0⟩ none 0 0) 24))) := ⟨(Below.refl _ _).alloc (Nat.le_refl _) _⟩
    unfold askV at HN HNB
    go_upto_region 5 with fail
    generalize hw3 : w2.alloc (.cells #[.int .i64 rk, .string ⟨#[]⟩, .string ⟨#[]⟩, .slice none 0 0, .int .i64 0, .int .i64 0] 24) = w3 at *
    clear hw3
    have HP4 := Bx.mk hP4
    have HGT := Bx.mk hgt
    clear hP4 hgt hK2
    have HALL : Bx (∀ W, Below w2.heap.size w2 W → RtE W ∧ Txt W pa P.length P ∧ Txt W qa nq Q ∧ W.heap[w.heap.size + 1]? = some (.cells askZ 24 (0, 0)) ∧ Below w.heap.size w W) := ⟨fun W h => ⟨HE2.out.below h, HTP.out.below h, HQ2.out.below h, (h.block _ (Array.getElem?_eq_some_iff.1 HZ2.out).1).trans HZ2.out, bstep HB2.out h⟩⟩
    go_wp2_with fail
    go_loopw [23] (fun i wr => ∃ (k : Nat) (a : As), k ≤ P.length ∧ i = .int .i64 k ∧ Bx (rdAll a (P.drop k) (Q.drop k) = rdAll ⟨rk, ⟨#[]⟩, ⟨#[]⟩, [], 0, 0⟩ P Q) ∧ Bx (AskB wr w2.heap.size a none 0 0) ∧ Bx (Below w2.heap.size w2 wr)) (fun i _ => P.length - (intOf i).toNat)
    case atStart => exact ⟨0, _, Nat.zero_le _, rfl, ⟨rfl⟩, HN, HNB⟩
    case round =>
      obtain ⟨k, a, hk, rfl, HI, HA, HB⟩ := hrel
      obtain ⟨hEr, hPr, hQr, hZr, hBr⟩ := HALL.out wr HB.out
      by_cases hlt : k < P.length
      · obtain ⟨b1, rfl, _, hc1⟩ := hPr.spot (by omega)
        obtain ⟨b2, rfl, _, hc2⟩ := hQr.spot (by have := HL.out; omega)
        have hx := hc1 k hlt
        have hy := hc2 k (by have := HL.out; omega)
        have hki : (k : Int) < (P.length : Int) := by omega
        have hkq : (k : Int) < (nq : Int) := by have := HL.out; omega
        have hst := rdAll_step (a := a) hlt HQL.out
        rw [HI.out] at hst
        have hqz : (Q.getD k ⟨#[]⟩).size ≤ 1000000 := by
          rw [List.getD_eq_getElem?_getD, List.getElem?_eq_getElem (by have := HQL.out; omega : k < Q.length)]
          exact HQS.out _ (List.getElem_mem _)
        have HRP := Bx.mk (readPiece_any (P.getD k ⟨#[]⟩) (Q.getD k ⟨#[]⟩) a none 0 0 w2.heap.size w2.heap.size w2 wr HA.out (Nat.le_refl _) HB.out hEr hqz)
        have HST := Bx.mk hst
        have HLT := Bx.mk hlt
        clear hc1 hc2 hPr hQr hEr hst hqz hZr hBr HI HA HB
        generalize P.getD k ⟨#[]⟩ = p at *
        generalize Q.getD k ⟨#[]⟩ = q at *
        generalize (rdPc a p q).1 = a2 at *
        rcases hok : (rdPc a p q).2 with _ | _
        · rw [hok] at HRP HST
          have HNO : Bx (rowRd r Q = none) := ⟨HRR.out _ (HST.out.trans (if_neg (by decide))) HQL.out⟩
          clear hok HST
          go_wp2_with fail
          refine HRP.out.mono ?_
          rintro e w4 ⟨rfl, hA4, hB4⟩
          obtain ⟨_, _, _, hZ4, hBw⟩ := HALL.out w4 hB4
          have HTR : Bx (w4.there (w.heap.size + 1) 0 6) := ⟨there_row hZ4⟩
          have HST : Bx ((w4.setCells (w.heap.size + 1) 0 askZ.toList).heap[w.heap.size + 1]? = some (.cells (askV as0 none 0 0) 24 (0, 0))) := ⟨heap_stored hZ4 rfl⟩
          have HFB : Bx (Below w.heap.size w (w4.setCells (w.heap.size + 1) 0 askZ.toList)) := ⟨below_setCells hBw _ (by omega) _ 0⟩
          clear hA4 hB4 hZ4 hBw
          go_wp2_with (refine wpList_store_mid rfl 24 (.tmp 4) (.tmp 35) rfl (w.heap.size + 1) 0 askZ rfl rfl HTR.out ask_info22 HZO.out ?_)
          exact bodyPost_ret (v := .tuple #[.agg (askV as0 none 0 0), .bool false]) (results_ask rfl _ _ (w.heap.size + 1) (askV as0 none 0 0) _ rfl rfl HST.out ask_info22) rfl ⟨rdr_no HNO.out rfl, HFB.out⟩
        · rw [hok] at HRP HST
          have HI2 : Bx (rdAll a2 (P.drop (k + 1)) (Q.drop (k + 1)) = rdAll ⟨rk, ⟨#[]⟩, ⟨#[]⟩, [], 0, 0⟩ P Q) := ⟨(HST.out.trans (if_pos rfl)).symm⟩
          clear hok HST
          go_wp2_with fail
          refine HRP.out.mono ?_
          rintro e w4 ⟨rfl, hA4, hB4⟩
          have HA4 := Bx.mk hA4
          have HB4 := Bx.mk hB4
          clear hA4 hB4
          have hk4 : (k : Int) + 1 ≤ 9223372036854775807 := by have := HP4.out; have := HLT.out; omega
          go_wp2_with fail
          go_roundw
          case rel => exact ⟨k + 1, a2, by have := HLT.out; omega, by go_num, HI2, HA4, HB4⟩
          case measure => have := HLT.out; simp [intOf]; omega
      · have hki : ¬ (k : Int) < (P.length : Int) := by omega
        have HYES : Bx (rowRd r Q = some a) := ⟨HRR.out _ (by rw [← HI.out, List.drop_eq_nil_of_le (by omega), all_end]) HQL.out⟩
        have HTR : Bx (wr.there (w.heap.size + 1) 0 6) := ⟨there_row hZr⟩
        have HST : Bx ((wr.setCells (w.heap.size + 1) 0 (askV a none 0 0).toList).heap[w.heap.size + 1]? = some (.cells (askV a none 0 0) 24 (0, 0))) := ⟨heap_stored hZr rfl⟩
        have HFB : Bx (Below w.heap.size w (wr.setCells (w.heap.size + 1) 0 (askV a none 0 0).toList)) := ⟨below_setCells hBr _ (by omega) _ 0⟩
        have HAL := Bx.mk (askV_all a none 0 0)
        clear hEr hPr hQr hZr hBr HI HB
        unfold AskB at HA
        go_wp2_with (first
          | (refine wpList_load_row rfl 24 (.tmp 7) rfl w2.heap.size rfl 24 (askV a none 0 0) (0, 0) _ HA.out Tryz.underlying24 rfl ask_info22 ?_)
          | (refine wpList_store_mid rfl 24 (.tmp 4) (.tmp 37) rfl (w.heap.size + 1) 0 (askV a none 0 0) rfl rfl HTR.out ask_info22 HAL.out ?_))
        exact bodyPost_ret (v := .tuple #[.agg (askV a none 0 0), .bool true]) (results_ask rfl _ _ (w.heap.size + 1) (askV a none 0 0) _ rfl rfl HST.out ask_info22) rfl ⟨rdr_yes HYES.out rfl, HFB.out⟩
  · have gl : ((nq : Int) != (P.length : Int)) = true := by simp; omega
    have HNO : Bx (rowRd r Q = none) := ⟨HNL.out (by rw [HQ2.out.len_eq]; exact hl)⟩
    have HTR : Bx (w2.there (w.heap.size + 1) 0 6) := ⟨there_row HZ2.out⟩
    have HST : Bx ((w2.setCells (w.heap.size + 1) 0 askZ.toList).heap[w.heap.size + 1]? = some (.cells (askV as0 none 0 0) 24 (0, 0))) := ⟨heap_stored HZ2.out rfl⟩
    have HFB : Bx (Below w.heap.size w (w2.setCells (w.heap.size + 1) 0 askZ.toList)) := ⟨below_setCells HB2.out _ (by omega) _ 0⟩
    clear hl hgt hK2 hP4
    go_wp2_with (refine wpList_store_mid rfl 24 (.tmp 4) (.tmp 17) rfl (w.heap.size + 1) 0 askZ rfl rfl HTR.out ask_info22 HZO.out ?_)
    exact bodyPost_ret (v := .tuple #[.agg (askV as0 none 0 0), .bool false]) (results_ask rfl _ _ (w.heap.size + 1) (askV as0 none 0 0) _ rfl rfl HST.out ask_info22) rfl ⟨rdr_no HNO.out rfl, HFB.out⟩
end Go.Proofs.YtpfijaojgeceeaaGreatDoor
namespace Go.Proofs.YtpfijaojgeceeaaGreatDoor
open Go.RowKit
set_option linter.unusedVariables false

set_option maxRecDepth 100000 in
theorem extraJ : Builder.Extra Tryz.prog Tryz.lays156_ren where
  sizeBuilder := by kernel_rfl
  liesBuilder := by kernel_rfl
  t5 := Tryz.underlying5
  a5 := Tryz.isAgg5
  z5 := Tryz.sizeOf5
  v5 := Tryz.zeroValue5
  infoByte := by kernel_rfl
  cellsByte := by kernel_rfl
  sizeByte := by kernel_rfl
  neB5 := by decide
/-- texts joined by slashes -/
def joinS (P : List ByteArray) : ByteArray := ⟨(Lib.join (P.map (·.data.toList)) [47]).toArray⟩
def tgtR (r : Rt) (a : As) : ByteArray := joinS ((ptsR r).map (wrPc a))
set_option maxRecDepth 100000 in
theorem lensJ : ∀ (P : List ByteArray) (m : Nat), (∀ s ∈ P, s.size ≤ m) → Lib.lens (P.map (·.data.toList)) ≤ m * P.length
  | [], m, _ => Nat.zero_le _
  | x :: t, m, h => by
    have h1 := lensJ t m (fun y hy => h y (List.mem_cons_of_mem _ hy))
    have h2 := h x List.mem_cons_self
    rw [Lib.size_eq] at h2
    have e : Lib.lens (x.data.toList :: t.map (·.data.toList)) = x.data.toList.length + Lib.lens (t.map (·.data.toList)) := by simp [Lib.lens]
    rw [List.map_cons, e, List.length_cons, Nat.mul_succ]
    omega
set_option maxRecDepth 100000 in
theorem joinS_len {P : List ByteArray} {m : Nat} (h2 : ∀ s ∈ P, s.size ≤ m) : (Lib.join (P.map (·.data.toList)) [47]).length ≤ (m + 1) * P.length := by
  have h3 := lensJ P m h2
  cases P with
  | nil => exact Nat.zero_le _
  | cons x t =>
    have e : Lib.lens (x.data.toList :: t.map (·.data.toList)) = Lib.lens ((x :: t).map (·.data.toList)) := rfl
    rw [List.map_cons, Lib.join_length, e]
    have e2 : (m + 1) * (t.length + 1) = m * (t.length + 1) + (t.length + 1) := by rw [Nat.add_mul, Nat.one_mul]
    simp only [List.length_map, List.length_cons, List.length_nil] at h3 ⊢
    rw [e2]
    omega
set_option maxRecDepth 100000 in
theorem joinJ_any {B n cap : Nat} {ao : Option Addr} {P : List ByteArray} (w : World) (h : w.ownsRow B 9 1 (.slice ao n cap) n (svT P)) (hn : 2 ≤ n) (hP : ∀ s ∈ P, s.size ≤ 2000) (hl : n ≤ 4) :
    Calls Tryz.prog 38 #[.slice ao n cap, .string ⟨#[47]⟩] w fun e w' => e = .returned (.string (joinS P)) ∧ Below w.heap.size w w' := by
  have hj := joinS_len hP
  have hlen : P.length = n := by have := h.1; rw [sv_length] at this; omega
  rcases h.2 with ⟨e, h0⟩ | ⟨g, cap2, cur, e, hb, hg, hnc, hcm, hcs, ht⟩
  · omega
  · cases e
    have hq := Any.strings_Join_many Tryz.lays156 extraJ g 0 cap P ⟨#[47]⟩ w (fun j x hx => by
      have hjn : j < n := by rw [← hlen]; exact (List.getElem?_eq_some_iff.1 hx).1
      have hc := h.cellAt j (by omega)
      rw [Nat.zero_add, hc]
      unfold svT
      rw [List.getElem?_map, hx]; rfl) (Array.getElem?_eq_some_iff.1 hg).1 (by omega) (by omega) (by omega) (by
        show (Lib.join _ [47]).length ≤ _
        have : (2000 + 1) * P.length ≤ 2001 * 4 := Nat.mul_le_mul_left _ (by omega)
        omega)
    rw [hlen] at hq
    exact hq
set_option maxRecDepth 100000 in
theorem wrPc_size {a : As} {p : ByteArray} (hA : V64 a.A) (hB : V64 a.B) (h1 : a.nm.size ≤ 1000) (h2 : a.sp.size ≤ 1000) (hp : p.size ≤ 20) : (wrPc a p).size ≤ 2000 := by
  unfold wrPc
  have k1 := decS_size hA.1 hA.2
  have k2 := decS_size hB.1 hB.2
  split
  · omega
  · split
    · omega
    · split
      · omega
      · split <;> omega
/-- the pieces that are written already -/
def wrTk (a : As) (P : List ByteArray) (k : Nat) : List ByteArray := (P.take k).map (wrPc a)
set_option maxRecDepth 100000 in
theorem wrTk_step {a : As} {P : List ByteArray} {k : Nat} (h : k < P.length) : wrTk a P (k + 1) = wrTk a P k ++ [wrPc a (P.getD k ⟨#[]⟩)] := by
  unfold wrTk
  rw [List.take_add_one, List.getD_eq_getElem?_getD, List.getElem?_eq_getElem h, List.map_append]; rfl
set_option maxRecDepth 100000 in
theorem askV_row {w : World} {g : Nat} {a : As} {ab : Option Addr} {n c : Nat} (h : AskB w g a ab n c) : w.heap[g]? = some (.cells (askV a ab n c) 24 (0, 0)) := h
set_option maxRecDepth 100000 in
set_option maxHeartbeats 4000000 in
set_option maxRecDepth 100000 in
theorem target_any (r : Rt) (a : As) (ab : Option Addr) (n c : Nat) (w : World) (hs : r.f.size ≤ 20) (hP4 : (ptsR r).length ≤ 4) (hP2 : 2 ≤ (ptsR r).length) (hPs : ∀ p ∈ ptsR r, p.size ≤ 20) (hA : V64 a.A) (hB : V64 a.B) (hnm : a.nm.size ≤ 1000) (hsp : a.sp.size ≤ 1000) (hE : Tens w) :
    Calls Tryz.prog 26 #[rtV r, .agg (askV a ab n c)] w fun e w' => e = .returned (.string (tgtR r a)) ∧ Below w.heap.size w w' := by
  obtain ⟨i0, hi, hz0, hz1, hz2⟩ := info_parts Tryz.info9
  obtain ⟨hROW, hASK, hsz⟩ := two_new18 w (.cells #[.int .i64 r.k, .string r.m, .string r.f, .bool r.h] 50) (.cells (askV a ab n c) 24)
  have hB1 : Below w.heap.size w ((w.alloc (.cells #[.int .i64 r.k, .string r.m, .string r.f, .bool r.h] 50)).alloc (.cells (askV a ab n c) 24)) := ((Below.refl _ _).alloc (Nat.le_refl _) _).alloc (by simp) _
  have HC : Bx (∀ W, Calls Tryz.prog 29 #[.agg #[.int .i64 r.k, .string r.m, .string r.f, .bool r.h]] W fun e w' => ∃ v, e = .returned v ∧ w'.ownsRow W.heap.size 9 1 v (ptsR r).length (svT (ptsR r)) ∧ Below W.heap.size W w') := ⟨fun W => parts_any r W hs⟩
  have HW : Bx (∀ W p, Tens W → Calls Tryz.prog 37 #[.agg (askV a ab n c), .string p] W fun e w' => e = .returned (.string (wrPc a p)) ∧ Below W.heap.size W w') := ⟨fun W p hW => writtenPiece_any p a ab n c W hA hB hW⟩
  have HSZ : Bx (∀ s ∈ (ptsR r).map (wrPc a), s.size ≤ 2000) := ⟨fun s hs => by
    obtain ⟨p, hp, rfl⟩ := List.mem_map.1 hs
    exact wrPc_size hA hB hnm hsp (hPs p hp)⟩
  have HTG : Bx (tgtR r a = joinS ((ptsR r).map (wrPc a))) := ⟨rfl⟩
  have HROW := Bx.mk hROW
  have HASK := Bx.mk hASK
  have HB1 := Bx.mk hB1
  have HT := Bx.mk hE
  show Calls Tryz.prog 26 #[.agg #[.int .i64 r.k, .string r.m, .string r.f, .bool r.h], .agg (askV a ab n c)] w fun e w' => e = .returned (.string (tgtR r a)) ∧ Below w.heap.size w w'
  rw [HTG.out]
  generalize ptsR r = P at *
  clear hROW hASK hB1 hE hs hPs hA hB hnm hsp hsz HTG
  generalize hAV : askV a ab n c = AV at *
  generalize r.f = rf at *
  generalize r.k = rk at *
  generalize r.m = rm at *
  generalize r.h = rh at *
  have HAV : Bx ((Tryz.prog.info? 24).map (·.size) = some AV.size) := ⟨by rw [← hAV]; exact ask_info22⟩
  have hcs : (Value.agg AV).cells = AV := rfl
  generalize hw1 : (w.alloc (.cells #[.int .i64 rk, .string rm, .string rf, .bool rh] 50)).alloc (.cells AV 24) = W1 at *
  subst hAV
  unfold askV at hw1
  go_enter Tryz.func26, Tryz.ntmps26
  go_upto_region 2 with fail
  clear hw1
  go_wp2_with (refine wpList_load_row rfl 50 (.tmp 2) rfl w.heap.size rfl 50 #[.int .i64 rk, .string rm, .string rf, .bool rh] (0, 0) _ HROW.out Tryz.underlying50 rfl row_info ?_)
  refine (HC.out _).mono ?_
  rintro e w2 ⟨v, rfl, ho, hb2⟩
  obtain ⟨pa, cp, rfl, hTP⟩ := Txt.of_owns ho
  have hB2 := HB1.out.trans (hb2.mono HB1.out.size)
  have HB2 : Bx (Below w.heap.size w w2) := ⟨hB2⟩
  have HA2 : Bx (w2.heap[w.heap.size + 1]? = some (.cells (askV a ab n c) 24 (0, 0))) := ⟨by rw [hb2.block _ (Array.getElem?_eq_some_iff.1 HASK.out).1]; exact HASK.out⟩
  have HALL : Bx (∀ W, Below w2.heap.size w2 W → Tens W ∧ Txt W pa P.length P ∧ W.heap[w.heap.size + 1]? = some (.cells (askV a ab n c) 24 (0, 0)) ∧ Below w.heap.size w W) := ⟨fun W h => ⟨(HT.out.below hB2).below h, hTP.below h, (h.block _ (Array.getElem?_eq_some_iff.1 HA2.out).1).trans HA2.out, bstep hB2 h⟩⟩
  clear hTP hB2 ho hb2 HROW HASK HB1 HT HC hcs
  generalize hAV : askV a ab n c = AV at *
  go_wp2_with fail
  go_loopw [11, 5] (fun i v wr => ∃ (k : Nat), k ≤ P.length ∧ i = .int .i64 k ∧ Bx (wr.ownsRow w2.heap.size 9 1 v k (svT (wrTk a P k))) ∧ Bx (Below w2.heap.size w2 wr)) (fun i _ _ => P.length - (intOf i).toNat)
  case atStart => exact ⟨0, Nat.zero_le _, rfl, ⟨World.ownsRow_nil _ _ _ _⟩, ⟨Below.refl _ _⟩⟩
  case round =>
    obtain ⟨k, hk, rfl, HO, HB⟩ := hrel
    obtain ⟨hTr, hPr, hAr, hBr⟩ := HALL.out wr HB.out
    obtain ⟨ao, cap, rfl⟩ := owns_slice HO.out
    by_cases hlt : k < P.length
    · obtain ⟨b1, rfl, _, hc1⟩ := hPr.spot (by omega)
      have hx := hc1 k hlt
      have hki : (k : Int) < (P.length : Int) := by omega
      have hk4 : (k : Int) + 1 ≤ 9223372036854775807 := by omega
      have HTK := Bx.mk (wrTk_step (a := a) hlt)
      have HWC := Bx.mk (HW.out wr (P.getD k ⟨#[]⟩) hTr)
      have HAR := Bx.mk hAr
      have HLT := Bx.mk hlt
      have HP4 := Bx.mk hP4
      have HP2 := Bx.mk hP2
      clear hc1 hPr hTr hAr hBr hlt hP4 hP2
      generalize P.getD k ⟨#[]⟩ = p at *
      generalize wrPc a p = s at *
      go_wp2_with (refine wpList_load_row rfl 24 (.tmp 3) rfl (w.heap.size + 1) rfl 24 AV (0, 0) _ HAR.out Tryz.underlying24 rfl HAV.out ?_)
      refine HWC.out.mono ?_
      rintro e w4 ⟨rfl, hb4⟩
      have ho4 := owns_below HO.out hb4
      have hB4 : Below w2.heap.size w2 w4 := bstep HB.out hb4
      go_wp2_with (at_builtin; refine wpList_append_own _ rfl _ _ 46 rfl w2.heap.size 9 i0 (.string ⟨#[]⟩) 1 16 Tryz.underlying46 hi hz0 hz1 hz2 rfl (by decide) _ _ _ rfl (ho4.alloc _) ⟨w4.heap.size, 0, none⟩ 1 1 [.string s] rfl rfl (cell_one_new _ _ _) (sv_one [s]) (by unfold maxLen; have := HP4.out; have := HLT.out; omega) (by have := HP4.out; have := HLT.out; omega) (by have := hB4.size; simp; omega) ?_)
      intro v' w5 hown' hgrow _
      have R := app_relS hB4 hB4.size ho4 hown' hgrow
      have R1 : Bx (w5.ownsRow w2.heap.size 9 1 v' (k + 1) (svT (wrTk a P (k + 1)))) := ⟨by rw [HTK.out, sv_append]; exact R.1⟩
      have R2 := Bx.mk R.2
      clear hown' hgrow ho4 R hB4 hb4
      go_wp2_with fail
      go_roundw
      case rel => exact ⟨k + 1, by have := HLT.out; omega, by go_num, R1, R2⟩
      case measure => have := HLT.out; simp [intOf]; omega
    · have hki : ¬ (k : Int) < (P.length : Int) := by omega
      obtain rfl : k = P.length := by omega
      have ho := HO.out
      rw [show wrTk a P P.length = P.map (wrPc a) from by unfold wrTk; rw [List.take_of_length_le (Nat.le_refl _)]] at ho
      have HJ := Bx.mk (joinJ_any wr ho hP2 HSZ.out hP4)
      have HBR := Bx.mk hBr
      clear ho hPr hTr hAr hBr hP2 hP4 hlt HO hk
      go_wp2_with fail
      refine HJ.out.mono ?_
      rintro e w4 ⟨rfl, hb4⟩
      have hbb := bstep HBR.out hb4
      go_wp2_with fail
      go_ret
      exact ⟨rfl, hbb⟩
end Go.Proofs.YtpfijaojgeceeaaGreatDoor
