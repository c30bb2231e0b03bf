/- What is reckoned by SHA-256, on lists of numbers: no walk. -/
import Derived.Test.YtaphbenkkicbhaaDoorBase
import Derived.Test.YtaphbenkkicbhaaDoorTurnMath
import Derived.Test.YtaphbenkkicbhaaDoorRefPut
namespace Go.Proofs.YtaphbenkkicbhaaDoor
open Go.RowKit
set_option linter.unusedVariables false

/-- how many noughts stand behind a text of n bytes -/
def padZ (n : Int) : Nat := ((119 - n % 64) % 64).toNat
theorem padZ_le (n : Int) : padZ n ≤ 63 := by unfold padZ; omega
/-- what stands behind a text of n bytes -/
def padL (n : Int) : List Int := 128 :: List.replicate (padZ n) 0 ++ putL (8 * n % 18446744073709551616) 8
theorem padL_length (n : Int) : (padL n).length = padZ n + 9 := by unfold padL; simp [putL_length]
theorem padL_byt (n : Int) : Byt (padL n) := by
  unfold padL
  refine Byt.append (Byt.cons (by decide) ?_) (putL_byt _ _)
  intro c hc; rw [List.eq_of_mem_replicate hc]; decide
/-- behind k noughts one more is wanted just if k is below that number -/
theorem pad_more (n : Int) (k : Nat) (h0 : 0 ≤ n) (hk : k ≤ padZ n) : ((((n + ((k : Int) + 1)) % 18446744073709551616 + 8) % 18446744073709551616) % 64 ≠ 0) ↔ k < padZ n := by
  unfold padZ at *; omega
theorem rep_snoc (k : Nat) : (128 : Int) :: List.replicate (k + 1) 0 = (128 :: List.replicate k 0) ++ [0] := by
  rw [List.replicate_succ']; rfl

/-- exclusive or, and, not: of numbers of 32 bits -/
def xr (a b : Int) : Int := ((a.toNat ^^^ b.toNat : Nat) : Int)
def an (a b : Int) : Int := ((a.toNat &&& b.toNat : Nat) : Int)
def U32 (a : Int) : Prop := 0 ≤ a ∧ a < 4294967296
theorem xr_eq {a b : Int} (ha : U32 a) (hb : U32 b) : bits .xor .u32 a b = xr a b := u32_xor a b ha.1 ha.2 hb.1 hb.2
theorem an_eq {a b : Int} (ha : U32 a) (hb : U32 b) : bits .and .u32 a b = an a b := u32_and a b ha.1 ha.2 hb.1 hb.2
theorem xr_u {a b : Int} (ha : U32 a) (hb : U32 b) : U32 (xr a b) := by
  have h1 := ha.1; have h2 := ha.2; have h3 := hb.1; have h4 := hb.2
  have := xor_lt32 a.toNat b.toNat (by omega) (by omega)
  exact ⟨by unfold xr; omega, by unfold xr; omega⟩
theorem an_u {a b : Int} (ha : U32 a) (hb : U32 b) : U32 (an a b) := by
  have h1 := ha.1; have h2 := ha.2
  have := @Nat.and_le_left a.toNat b.toNat
  exact ⟨by unfold an; omega, by unfold an; omega⟩
theorem turn_u {x : Int} (n : Int) (h : U32 x) : U32 (turnV x n) := turn_bd x n h.1 h.2
/-- turned by three numbers of places, all of it by exclusive or -/
def thr (x a b c : Int) : Int := xr (xr (turnV x a) (turnV x b)) (turnV x c)
theorem thr_u {x : Int} (a b c : Int) (h : U32 x) : U32 (thr x a b c) := xr_u (xr_u (turn_u a h) (turn_u b h)) (turn_u c h)

def keyL : List Int := [1116352408, 1899447441, 3049323471, 3921009573, 961987163, 1508970993, 2453635748, 2870763221, 3624381080, 310598401, 607225278, 1426881987, 1925078388, 2162078206, 2614888103, 3248222580, 3835390401, 4022224774, 264347078, 604807628, 770255983, 1249150122, 1555081692, 1996064986, 2554220882, 2821834349, 2952996808, 3210313671, 3336571891, 3584528711, 113926993, 338241895, 666307205, 773529912, 1294757372, 1396182291, 1695183700, 1986661051, 2177026350, 2456956037, 2730485921, 2820302411, 3259730800, 3345764771, 3516065817, 3600352804, 4094571909, 275423344, 430227734, 506948616, 659060556, 883997877, 958139571, 1322822218, 1537002063, 1747873779, 1955562222, 2024104815, 2227730452, 2361852424, 2428436474, 2756734187, 3204031479, 3329325298]
def uv (l : List Int) : List Value := l.map (Value.int .u32)
theorem uv_length (l : List Int) : (uv l).length = l.length := by simp [uv]
theorem uv_append (l m : List Int) : uv (l ++ m) = uv l ++ uv m := by simp [uv]
theorem uv_one (l : List Int) : ∀ u ∈ uv l, u.oneCell' = true := ints_oneCell _ l
def U32s (l : List Int) : Prop := ∀ c ∈ l, U32 c
theorem U32s.getD {l : List Int} (h : U32s l) (i : Nat) : U32 (l.getD i 0) := by
  by_cases hi : i < l.length
  · rw [List.getD_eq_getElem?_getD, List.getElem?_eq_getElem hi]; exact h _ (List.getElem_mem hi)
  · rw [List.getD_eq_getElem?_getD, List.getElem?_eq_none (by omega)]; exact ⟨by decide, by decide⟩
theorem keyL_u : U32s keyL := by
  intro c hc
  have : keyL.all (fun c => decide (0 ≤ c) && decide (c < 4294967296)) = true := by decide +kernel
  have := List.all_eq_true.1 this c hc
  simp at this
  exact this
end Go.Proofs.YtaphbenkkicbhaaDoor
