/- What Print answers. -/
import Derived.Test.YtjlclgmbenhakaaDoorChunkSeq
namespace Go.Proofs.YtjlclgmbenhakaaDoor
open Go.RowKit Go.Shelf
attribute [local go_sem] Oper.semAt_some

/-- what Print answers: the bytes, the error -/
def pnE (x : Int) (n : Nat) : Int := if x < 1 ∨ 2048 < x then 2 else if 2048 < n then 5 else 0
def pnL (x : Int) (b : List Int) : List Int := if pnE x b.length = 0 then prL x.toNat b else []
/-- pieces in chunks -/
def pcO (len size : Nat) (b : List Int) (pre : List (Pc len size)) : List Int := pre.flatMap fun j => ckL ((b.drop (j.k * size)).take size)
set_option maxRecDepth 100000 in
theorem ck_le (d : List Int) (h : d.length ≤ 2048) : (ckL d).length ≤ 2060 := by
  have := (hexN_len d.length).2 (by omega)
  unfold ckL
  simp only [List.length_append, List.length_cons, List.length_nil]
  omega
set_option maxRecDepth 100000 in
theorem pcO_len (len size : Nat) (b : List Int) (hs : size ≤ 2048) : ∀ pre : List (Pc len size), (pcO len size b pre).length ≤ pre.length * 2060
  | [] => by simp [pcO]
  | x :: r => by
    have h1 := pcO_len len size b hs r
    have h2 := ck_le ((b.drop (x.k * size)).take size) (by rw [List.length_take]; omega)
    unfold pcO at h1 ⊢
    rw [List.flatMap_cons, List.length_append, List.length_cons]
    omega
set_option maxRecDepth 100000 in
theorem pcO_snoc (len size : Nat) (b : List Int) (pre : List (Pc len size)) (x : Pc len size) : pcO len size b (pre ++ [x]) = pcO len size b pre ++ ckL ((b.drop (x.k * size)).take size) := by unfold pcO; rw [List.flatMap_append]; simp
set_option maxRecDepth 100000 in
theorem pr_range (size : Nat) (hs : 1 ≤ size) : ∀ (K : Nat) (b : List Int), b.length ≤ K * size → (∀ j, j < K → j * size < b.length) → prL size b = (List.range K).flatMap (fun j => ckL ((b.drop (j * size)).take size)) ++ [48, 13, 10, 13, 10]
  | 0, b, h1, _ => by
    obtain rfl : b = [] := List.eq_nil_of_length_eq_zero (by omega)
    rfl
  | K + 1, b, h1, h2 => by
    have hb : b ≠ [] := by intro e; have := h2 0 (by omega); rw [e] at this; simp at this
    rw [prL_cons size hs hb, pr_range size hs K (b.drop size) (by rw [List.length_drop]; rw [Nat.add_mul] at h1; omega) (fun j hj => by
      have := h2 (j + 1) (by omega)
      rw [Nat.add_mul] at this
      rw [List.length_drop]; omega)]
    have e : (fun j => ckL (((b.drop size).drop (j * size)).take size)) = fun j => ckL ((b.drop ((j + 1) * size)).take size) := by
      funext j
      rw [List.drop_drop, show size + j * size = (j + 1) * size from by rw [Nat.add_mul]; omega]
    rw [List.range_succ_eq_map, List.flatMap_cons, List.flatMap_map, Nat.zero_mul, List.drop_zero, List.append_assoc, e]
set_option maxRecDepth 100000 in
theorem pcO_all {len size : Nat} {b : List Int} (hs : 1 ≤ size) (hb : b.length = len) {ys : List (Pc len size)} (h1 : ys.map (·.k) = List.range ys.length) (h2 : len ≤ ys.length * size) : pcO len size b ys ++ [48, 13, 10, 13, 10] = prL size b := by
  rw [pr_range size hs ys.length b (by rw [hb]; exact h2) (fun j hj => by
    have h3 : (ys.map (·.k))[j]? = some j := by rw [h1, List.getElem?_range hj]
    rw [List.getElem?_map, List.getElem?_eq_getElem hj] at h3
    have h4 : ys[j].k = j := by simpa using h3
    have := ys[j].lt
    rw [h4] at this; omega)]
  congr 1
  rw [← h1, List.flatMap_map]; rfl
set_option maxRecDepth 100000 in
theorem wpListIn_append_str {F : Fence} {r : Nat} {ops : Array Oper} {rest : List Oper} {o : Oper} {a : Act} {w : World} {Q : Exit → Act → World → Prop} (hgd : o.guard = none) (s x : Operand)
    (ho : o.op = .call { callee := .builtin .append, args := #[s, x], argTypes := #[22, 9] })
    (base n : Nat) (v : Value) (l : List Int) (hs : a.eval s = v) (hown : w.ownsRow base 5 1 v n (bv l))
    (t : ByteArray) (hx : a.eval x = .string t) (ht : 0 < t.size) (h63 : n + t.size ≤ 70368744177664) (hbase : base ≤ w.heap.size)
    (h : ∀ v' w', w'.ownsRow base 5 1 v' (n + t.size) (bv (l ++ strL t)) → Kept (fun k => v.ownBlock = some k) w w' → Lies v v' w.heap.size → wpListIn F r Tryd.prog ops Q rest (a.put o.dst v') w') : wpListIn F r Tryd.prog ops Q (o :: rest) a w := by
  obtain ⟨v', w', hr, h1, h2, h3⟩ := app_str w o.type base n v l t hown ht h63 hbase
  refine wpListIn_plain hgd fun K hK => ?_
  unfold Oper.wpIn
  refine ⟨?_, ?_⟩
  · simp [Oper.about, ho, resolve, Target.leads, Sem.run_pure]
  · rw [Oper.semAt_plain F _ _ (by rw [ho]; intro c hc'; cases hc')]
    simp [execOp, ho, resolve, invoke, builtin, hs, hx, hr, Result.andThen]
    exact hK _ _ (h v' w' h1 h2 h3)
def endS : ByteArray := ⟨#[48, 13, 10, 13, 10]⟩
set_option maxRecDepth 100000 in
theorem endS_l : strL endS = [48, 13, 10, 13, 10] := by decide
set_option maxRecDepth 100000 in
theorem endS_s : endS.size = 5 := rfl
set_option maxHeartbeats 1000000 in
theorem chunkf_in (n : Nat) (a : Option Addr) (len cap : Nat) (size : Nat) (w : World) (hs : 1 ≤ size) (hs2 : size ≤ 2048) :
    CallsIn Fence.wide n Tryd.prog 14 #[.slice a len cap, .int .i64 (size : Int)] w fun e w' => e = .returned (.func (.func 20) #[] #[.pointer (some ⟨w.heap.size, 0, none⟩), .pointer (some ⟨w.heap.size + 1, 0, none⟩)]) ∧ w' = (w.alloc (.cells #[.slice a len cap] 22)).alloc (.cells #[.int .i64 (size : Int)] 3) := by
  have g1 : decide ((size : Int) < 1) = false := by simp; omega
  refine callsIn_of_wp Tryd.func14 rfl trivial ?_ rfl
  simp only [Tryd.ntmps14, List.size_toArray, List.length_cons, List.length_nil, Nat.reduceAdd, Nat.reduceSub, Array.replicate_succ, Array.replicate_zero, List.push_toArray, List.append_toArray, List.nil_append, List.cons_append]
  gi_wp2
  go_ret
  exact ⟨rfl, rfl⟩
set_option maxRecDepth 100000 in
theorem chunk_stops (n : Nat) (hn : 1 ≤ n) (Bs Bn : Nat) (a : Option Addr) (len cap size : Nat) (w : World) (c1 : w.heap[Bs]? = some (.cells #[.slice a len cap] 22 (0, 0))) (c2 : w.heap[Bn]? = some (.cells #[.int .i64 (size : Int)] 3 (0, 0))) (hlc : len ≤ cap) (hsz : 1 ≤ size) (hs : size ≤ 2048) (hl : len ≤ 2048) :
    SeqStopsK Fence.wide n Tryd.prog 20 #[.pointer (some ⟨Bs, 0, none⟩), .pointer (some ⟨Bn, 0, none⟩)] (pcV a len size) (BoxK Bs Bn) (fun ys : List (Pc len size) => ys.map (·.k) = List.range ys.length ∧ len ≤ ys.length * size) (fun _ => True) len w := fun l J Jx W hW hJ _ hY h0 =>
  chunk1_in n hn l Bs Bn a len cap size J Jx hY W hJ ((hW.block Bs (Array.getElem?_eq_some_iff.1 c1).1).trans c1) ((hW.block Bn (Array.getElem?_eq_some_iff.1 c2).1).trans c2) hlc hsz hs hl h0
/-- the state behind some pieces -/
structure PrI (w : World) (B : Nat) (a : Option Addr) (len cap size : Nat) (b : List Int) (pre : List (Pc len size)) (W : World) : Prop where
  out : ∃ v, Boxed W B 22 v ∧ W.ownsRow w.heap.size 5 1 v (pcO len size b pre).length (bv (pcO len size b pre))
  bs : Boxed W (B + 1) 22 (.slice a len cap)
  bn : Boxed W (B + 2) 3 (.int .i64 (size : Int))
  bel : Below w.heap.size w W
set_option maxRecDepth 100000 in
theorem PrI.step {w W W' : World} {row : Option Nat} {B : Nat} {a : Option Addr} {len cap size : Nat} {b : List Int} {pre : List (Pc len size)} (h : PrI w B a len cap size b pre W) (hB : w.heap.size ≤ B) (hg : W.grownBy W' row) (hr : ∀ r, row = some r → B ≤ r ∧ ∃ o : Obj, W.heap[r]? = some o ∧ o.isCells = false) : PrI w B a len cap size b pre W' := by
  have far : ∀ (k : Nat) (cs : Array Value) (t : TypeId), W.heap[k]? = some (.cells cs t (0, 0)) → W'.heap[k]? = some (.cells cs t (0, 0)) := fun k cs t hk => (hg.block k (Array.getElem?_eq_some_iff.1 hk).1 (fun e => by
    obtain ⟨_, o, ho, hc⟩ := hr k e.symm
    rw [hk] at ho; cases ho; cases hc)).trans hk
  obtain ⟨v, hv, hro⟩ := h.out
  refine ⟨⟨v, far _ _ _ hv, ⟨hro.1, ?_⟩⟩, far _ _ _ h.bs, far _ _ _ h.bn, h.bel.trans ⟨hg.os, hg.tape, hg.output, hg.size, fun k hk => hg.block k (Nat.lt_of_lt_of_le hk h.bel.size) (fun e => by have := (hr k e.symm).1; omega)⟩⟩
  rcases hro.2 with h2 | ⟨g, cp, cur, e, hb, hg2, r⟩
  · exact .inl h2
  · exact .inr ⟨g, cp, cur, e, hb, far _ _ _ hg2, r⟩
set_option maxRecDepth 100000 in
/-- one piece more -/
theorem PrI.more {w W W1 : World} {B : Nat} {a : Option Addr} {len cap size : Nat} {b : List Int} {pre : List (Pc len size)} {x : Pc len size} {v v1 : Value} (h : PrI w B a len cap size b pre W) (hB : w.heap.size ≤ B) (hv : Boxed W B 22 v) (ho : W.ownsRow w.heap.size 5 1 v (pcO len size b pre).length (bv (pcO len size b pre)))
    (hk : Kept (fun k => v.ownBlock = some k) W W1) (hl : Lies v v1 W.heap.size) (ho1 : W1.ownsRow w.heap.size 5 1 v1 ((pcO len size b pre).length + (ckL ((b.drop (x.k * size)).take size)).length) (bv (pcO len size b pre ++ ckL ((b.drop (x.k * size)).take size)))) :
    W1.cell? ⟨B, 0, none⟩ = some v ∧ W1.frozen? ⟨B, 0, none⟩ = false ∧ KeepsOthers W (W1.setCell ⟨B, 0, none⟩ v1) ∧ BoxK (B + 1) (B + 2) W (W1.setCell ⟨B, 0, none⟩ v1) ∧ PrI w B a len cap size b (pre ++ [x]) (W1.setCell ⟨B, 0, none⟩ v1) := by
  have hgB : Kept (fun k => v.ownBlock = some k) W W1 := hk
  have nB : v.ownBlock ≠ some B := fun e => hv.not_row (by decide) ho e.symm
  have nS : v.ownBlock ≠ some (B + 1) := fun e => h.bs.not_row (by decide) ho e.symm
  have nN : v.ownBlock ≠ some (B + 2) := fun e => h.bn.not_row (by decide) ho e.symm
  have hv1 : Boxed W1 B 22 v := (hk.block B hv.lt nB).trans hv
  have hs1 : Boxed W1 (B + 1) 22 (.slice a len cap) := (hk.block _ h.bs.lt nS).trans h.bs
  have hn1 : Boxed W1 (B + 2) 3 (.int .i64 (size : Int)) := (hk.block _ h.bn.lt nN).trans h.bn
  have hoth : ∀ k, k ≠ B → (W1.setCell ⟨B, 0, none⟩ v1).heap[k]? = W1.heap[k]? := fun k hk => heap_setCell_other W1 ⟨B, 0, none⟩ k v1 hk
  have hsz : (W1.setCell ⟨B, 0, none⟩ v1).heap.size = W1.heap.size := by simp [World.setCell]
  refine ⟨hv1.cell, hv1.frozen, ⟨by rw [hsz]; exact hk.size, fun k o hko hc => ?_⟩, ⟨by rw [hsz]; exact hk.size, (hoth _ (by omega)).trans (hk.block _ h.bs.lt nS), (hoth _ (by omega)).trans (hk.block _ h.bn.lt nN)⟩, ⟨⟨v1, hv1.set v1, ?_⟩, (hoth _ (by omega)).trans hs1, (hoth _ (by omega)).trans hn1, ?_⟩⟩
  · have hkl := (Array.getElem?_eq_some_iff.1 hko).1
    have hkB : k ≠ B := by
      rintro rfl
      rw [show W.heap[k]? = _ from hv] at hko; cases hko; cases hc
    rw [hoth k hkB, hk.block k hkl (fun e => by
      rcases ho.2 with ⟨rfl, _⟩ | ⟨g, cp, cur, rfl, _, hg2, _⟩
      · cases e
      · obtain rfl : g = k := by simpa [Value.ownBlock] using e
        rw [hg2] at hko; cases hko; cases hc)]
    exact hko
  · rw [pcO_snoc, List.length_append]
    exact owns_setCells (vs := [v1]) (o := 0) ho1 (fun k hk2 => by
      rintro rfl
      rcases hl k hk2 with h1 | h1
      · exact nB h1
      · have := hv.lt; omega)
  · have h1 : Below w.heap.size W W1 := hk.low (fun k hk2 => (ho.lt k hk2).1) h.bel.size
    exact (h.bel.trans h1).setCell (p := ⟨B, 0, none⟩) hB _
end Go.Proofs.YtjlclgmbenhakaaDoor
