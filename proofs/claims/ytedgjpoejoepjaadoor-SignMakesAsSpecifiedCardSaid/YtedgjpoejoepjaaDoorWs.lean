/-
  Words of 32 bits as values; rotations by their contracts.
  The words of a block, by contract.
-/
import Derived.Test.YtedgjpoejoepjaaDoorBase
import Derived.Test.YtedgjpoejoepjaaDoorSha
import Derived.StillTailTactics
namespace Go.Proofs.YtedgjpoejoepjaaDoor
open Go.RowKit
set_option linter.unusedVariables false
set_option linter.unusedSimpArgs false

/-- a word as a value -/
abbrev U (x : UInt32) : Value := .int .u32 (x.toNat : Int)

theorem U_xor (a b : UInt32) : bits .xor .u32 (a.toNat : Int) (b.toNat : Int) = ((a ^^^ b).toNat : Int) := by rw [u32_xor_nat _ _ a.toNat_lt b.toNat_lt, UInt32.toNat_xor]
theorem U_and (a b : UInt32) : bits .and .u32 (a.toNat : Int) (b.toNat : Int) = ((a &&& b).toNat : Int) := by rw [u32_and_nat _ _ a.toNat_lt b.toNat_lt, UInt32.toNat_and]
theorem U_or (a b : UInt32) : bits .or .u32 (a.toNat : Int) (b.toNat : Int) = ((a ||| b).toNat : Int) := by rw [u32_or_nat _ _ a.toNat_lt b.toNat_lt, UInt32.toNat_or]
theorem U_add (a b : UInt32) : ((a.toNat : Int) + (b.toNat : Int)) % 4294967296 = ((a + b).toNat : Int) := by
  rw [UInt32.toNat_add]; omega
theorem U_addw (a b : UInt32) : IntKind.u32.wrap ((a.toNat : Int) + (b.toNat : Int)) = ((a + b).toNat : Int) := by
  rw [IntKind.wrap_u32', U_add]
theorem U_shr (x : UInt32) (k : Nat) (h : k < 32) : (x.toNat : Int) / 2 ^ k = ((x >>> UInt32.ofNat k).toNat : Int) := by
  rw [UInt32.toNat_shiftRight, UInt32.toNat_ofNat', Nat.mod_eq_of_lt (show k < 2 ^ 32 by omega), Nat.mod_eq_of_lt h, Nat.shiftRight_eq_div_pow]
  simp
theorem U_shl (x : UInt32) (k : Nat) (h : k < 32) : (x.toNat : Int) * 2 ^ k % 4294967296 = ((x <<< UInt32.ofNat k).toNat : Int) := by
  rw [UInt32.toNat_shiftLeft, UInt32.toNat_ofNat', Nat.mod_eq_of_lt (show k < 2 ^ 32 by omega), Nat.mod_eq_of_lt h, Nat.shiftLeft_eq]
  simp

theorem rot_count (n s : Nat) (h1 : 1 ≤ n) (h2 : n ≤ 31) (hs : s = 32 - n) : bits .and .u64 (IntKind.u64.wrap (-(n : Int))) 31 = (s : Int) := by
  subst hs
  have H : ∀ k : Fin 32, 1 ≤ k.val → bits .and .u64 (IntKind.u64.wrap (-(k.val : Int))) 31 = ((32 - k.val : Nat) : Int) := by decide +kernel
  exact H ⟨n, by omega⟩ h1
theorem rot_is (x : UInt32) (n s : Nat) (h1 : 1 ≤ n) (h2 : n ≤ 31) (hs : s = 32 - n) :
    bits .or .u32 ((x.toNat : Int) * 2 ^ s % 4294967296) ((x.toNat : Int) / 2 ^ (32 - s)) = ((Sha.rotr x (UInt32.ofNat n)).toNat : Int) := by
  rw [U_shl x s (by omega), show 32 - s = n by omega, U_shr x n (by omega), U_or]
  unfold Sha.rotr
  rw [show (32 : UInt32) - UInt32.ofNat n = UInt32.ofNat s from by
    subst hs
    have H : ∀ k : Fin 32, (32 : UInt32) - UInt32.ofNat k.val = UInt32.ofNat (32 - k.val) := by decide +kernel
    exact H ⟨n, by omega⟩, UInt32.or_comm]

set_option maxHeartbeats 400000 in
set_option maxRecDepth 100000 in
theorem rotl_any (x : UInt32) (n s : Nat) (w : World) (h1 : 1 ≤ n) (h2 : n ≤ 31) (hs : s = 32 - n) :
    Calls Tryd.prog 74 #[U x, .int .i64 (-(n : Int))] w fun e w' => e = .returned (U (Sha.rotr x (UInt32.ofNat n))) ∧ w = w' := by
  have hx := x.toNat_lt
  have hc := rot_count n s h1 h2 hs
  have hs1 : 1 ≤ s := by omega
  have hs2 : s ≤ 31 := by omega
  have HS := hide (rot_is x n s h1 h2 hs)
  clear hs
  go_enter Tryd.func74, Tryd.ntmps74
  go_wp2
  go_ret
  exact ⟨by show Ending.returned (.int .u32 _) = _; rw [HS.out], rfl⟩

set_option maxHeartbeats 400000 in
set_option maxRecDepth 100000 in
/-- the rotation of package hash -/
theorem rotr_any (x : UInt32) (n : Nat) (w : World) (h1 : 1 ≤ n) (h2 : n ≤ 31) :
    Calls Tryd.prog 73 #[U x, .int .i64 (n : Int)] w fun e w' => e = .returned (U (Sha.rotr x (UInt32.ofNat n))) ∧ w = w' := by
  have H := hide (rotl_any x n (32 - n) w h1 h2 rfl)
  go_enter Tryd.func73, Tryd.ntmps73
  go_wp2_with (go_at_call 74; refine (unhide H).mono ?_; rintro e w' ⟨rfl, rfl⟩)
  go_ret
  exact ⟨rfl, rfl⟩

set_option maxHeartbeats 400000 in
set_option maxRecDepth 100000 in
/-- the rotation of the reference -/
theorem refRotr_any (x : UInt32) (n : Nat) (w : World) (h1 : 1 ≤ n) (h2 : n ≤ 31) :
    Calls Tryd.prog 70 #[U x, .int .i64 (n : Int)] w fun e w' => e = .returned (U (Sha.rotr x (UInt32.ofNat n))) ∧ ∃ k, w' = w.drewN k := by
  have hx := x.toNat_lt
  have g1 : (0 : Int) ≤ (n : Int) := by omega
  have g2 : (n : Int) ≤ 31 := by omega
  have g3 : (0 : Int) ≤ 32 - (n : Int) := by omega
  go_enter Tryd.func70, Tryd.ntmps70
  go_wp2
  have g4 : IntKind.i64.wrap (32 - (n : Int)) = 32 - (n : Int) := IntWalk.i64_in _ (by omega)
  go_quiet (fail)
  clear g4
  go_wp2
  go_ret
  refine ⟨?_, _, rfl⟩
  show Ending.returned (.int .u32 _) = _
  rw [U_shl x (32 - n) (by omega), U_shr x n (by omega), U_or]
  unfold Sha.rotr
  rw [show (32 : UInt32) - UInt32.ofNat n = UInt32.ofNat (32 - n) from by
    have H : ∀ k : Fin 32, (32 : UInt32) - UInt32.ofNat k.val = UInt32.ofNat (32 - k.val) := by decide +kernel
    exact H ⟨n, by omega⟩]
theorem rotr_2 (x : UInt32) (w : World) : Calls Tryd.prog 73 #[U x, .int .i64 2] w fun e w' => e = .returned (U (Sha.rotr x 2)) ∧ w = w' := rotr_any x 2 w (by omega) (by omega)
theorem refRotr_2 (x : UInt32) (w : World) : Calls Tryd.prog 70 #[U x, .int .i64 2] w fun e w' => e = .returned (U (Sha.rotr x 2)) ∧ ∃ k, w' = w.drewN k := refRotr_any x 2 w (by omega) (by omega)
theorem rotr_6 (x : UInt32) (w : World) : Calls Tryd.prog 73 #[U x, .int .i64 6] w fun e w' => e = .returned (U (Sha.rotr x 6)) ∧ w = w' := rotr_any x 6 w (by omega) (by omega)
theorem refRotr_6 (x : UInt32) (w : World) : Calls Tryd.prog 70 #[U x, .int .i64 6] w fun e w' => e = .returned (U (Sha.rotr x 6)) ∧ ∃ k, w' = w.drewN k := refRotr_any x 6 w (by omega) (by omega)
theorem rotr_7 (x : UInt32) (w : World) : Calls Tryd.prog 73 #[U x, .int .i64 7] w fun e w' => e = .returned (U (Sha.rotr x 7)) ∧ w = w' := rotr_any x 7 w (by omega) (by omega)
theorem refRotr_7 (x : UInt32) (w : World) : Calls Tryd.prog 70 #[U x, .int .i64 7] w fun e w' => e = .returned (U (Sha.rotr x 7)) ∧ ∃ k, w' = w.drewN k := refRotr_any x 7 w (by omega) (by omega)
theorem rotr_11 (x : UInt32) (w : World) : Calls Tryd.prog 73 #[U x, .int .i64 11] w fun e w' => e = .returned (U (Sha.rotr x 11)) ∧ w = w' := rotr_any x 11 w (by omega) (by omega)
theorem refRotr_11 (x : UInt32) (w : World) : Calls Tryd.prog 70 #[U x, .int .i64 11] w fun e w' => e = .returned (U (Sha.rotr x 11)) ∧ ∃ k, w' = w.drewN k := refRotr_any x 11 w (by omega) (by omega)
theorem rotr_13 (x : UInt32) (w : World) : Calls Tryd.prog 73 #[U x, .int .i64 13] w fun e w' => e = .returned (U (Sha.rotr x 13)) ∧ w = w' := rotr_any x 13 w (by omega) (by omega)
theorem refRotr_13 (x : UInt32) (w : World) : Calls Tryd.prog 70 #[U x, .int .i64 13] w fun e w' => e = .returned (U (Sha.rotr x 13)) ∧ ∃ k, w' = w.drewN k := refRotr_any x 13 w (by omega) (by omega)
theorem rotr_17 (x : UInt32) (w : World) : Calls Tryd.prog 73 #[U x, .int .i64 17] w fun e w' => e = .returned (U (Sha.rotr x 17)) ∧ w = w' := rotr_any x 17 w (by omega) (by omega)
theorem refRotr_17 (x : UInt32) (w : World) : Calls Tryd.prog 70 #[U x, .int .i64 17] w fun e w' => e = .returned (U (Sha.rotr x 17)) ∧ ∃ k, w' = w.drewN k := refRotr_any x 17 w (by omega) (by omega)
theorem rotr_18 (x : UInt32) (w : World) : Calls Tryd.prog 73 #[U x, .int .i64 18] w fun e w' => e = .returned (U (Sha.rotr x 18)) ∧ w = w' := rotr_any x 18 w (by omega) (by omega)
theorem refRotr_18 (x : UInt32) (w : World) : Calls Tryd.prog 70 #[U x, .int .i64 18] w fun e w' => e = .returned (U (Sha.rotr x 18)) ∧ ∃ k, w' = w.drewN k := refRotr_any x 18 w (by omega) (by omega)
theorem rotr_19 (x : UInt32) (w : World) : Calls Tryd.prog 73 #[U x, .int .i64 19] w fun e w' => e = .returned (U (Sha.rotr x 19)) ∧ w = w' := rotr_any x 19 w (by omega) (by omega)
theorem refRotr_19 (x : UInt32) (w : World) : Calls Tryd.prog 70 #[U x, .int .i64 19] w fun e w' => e = .returned (U (Sha.rotr x 19)) ∧ ∃ k, w' = w.drewN k := refRotr_any x 19 w (by omega) (by omega)
theorem rotr_22 (x : UInt32) (w : World) : Calls Tryd.prog 73 #[U x, .int .i64 22] w fun e w' => e = .returned (U (Sha.rotr x 22)) ∧ w = w' := rotr_any x 22 w (by omega) (by omega)
theorem refRotr_22 (x : UInt32) (w : World) : Calls Tryd.prog 70 #[U x, .int .i64 22] w fun e w' => e = .returned (U (Sha.rotr x 22)) ∧ ∃ k, w' = w.drewN k := refRotr_any x 22 w (by omega) (by omega)
theorem rotr_25 (x : UInt32) (w : World) : Calls Tryd.prog 73 #[U x, .int .i64 25] w fun e w' => e = .returned (U (Sha.rotr x 25)) ∧ w = w' := rotr_any x 25 w (by omega) (by omega)
theorem refRotr_25 (x : UInt32) (w : World) : Calls Tryd.prog 70 #[U x, .int .i64 25] w fun e w' => e = .returned (U (Sha.rotr x 25)) ∧ ∃ k, w' = w.drewN k := refRotr_any x 25 w (by omega) (by omega)
end Go.Proofs.YtedgjpoejoepjaaDoor
namespace Go.Proofs.YtedgjpoejoepjaaDoor
open Go.RowKit
set_option linter.unusedVariables false
set_option linter.unusedSimpArgs false

/-- words as cells -/
def UV (l : List UInt32) : List Value := l.map U
theorem UV_len (l : List UInt32) : (UV l).length = l.length := by simp [UV]
theorem UV_get (l : List UInt32) (i : Nat) (h : i < l.length) : (UV l)[i]? = some (U l[i]) := by simp [UV, h]

/-- the operations on words behind plain names: the walk's simp leaves them alone -/
def wx (a b : UInt32) : UInt32 := a ^^^ b
def wa (a b : UInt32) : UInt32 := a &&& b
def wp (a b : UInt32) : UInt32 := a + b
def wn (a : UInt32) : UInt32 := ~~~ a
def ws (a : UInt32) (k : UInt32) : UInt32 := a >>> k
theorem wx_is (a b : UInt32) : bits .xor .u32 (a.toNat : Int) (b.toNat : Int) = ((wx a b).toNat : Int) := U_xor a b
theorem wa_is (a b : UInt32) : bits .and .u32 (a.toNat : Int) (b.toNat : Int) = ((wa a b).toNat : Int) := U_and a b
theorem wp_is (a b : UInt32) : ((a.toNat : Int) + (b.toNat : Int)) % 4294967296 = ((wp a b).toNat : Int) := U_add a b
theorem wp_isw (a b : UInt32) : IntKind.u32.wrap ((a.toNat : Int) + (b.toNat : Int)) = ((wp a b).toNat : Int) := U_addw a b

theorem wn_eq (a : UInt32) : (4294967295 : UInt32) ^^^ a = ~~~ a := by
  apply UInt32.toBitVec_inj.1
  rw [UInt32.toBitVec_xor, UInt32.toBitVec_not, BitVec.not_def]
  rfl
theorem wn_is (a : UInt32) : bits .xor .u32 (if IntKind.u32.signed = true then -1 else IntKind.u32.max) (a.toNat : Int) = ((wn a).toNat : Int) := by
  have := U_xor 4294967295 a
  rw [wn_eq] at this
  exact this

theorem results_cell0 {P : Program} {fn : Func} {p : Tmp} {ty : TypeId} (h : fn.results = #[.cell p ty]) (tmps : Array Value) (w : World) (a : Addr) (v : Value)
    (hp : tmps.getD p undef = .pointer (some a)) (hl : (loadVar ty a).run P w = .ok v w) : (results fn tmps).run P w = .ok v w := by
  have hp' : tmps[p]?.getD undef = .pointer (some a) := by simpa using hp
  simp [results, h, hp', asAddr, hl]
theorem below_setRow {B g : Nat} {w0 w : World} (h : Below B w0 w) (hg : B ≤ g) (cs : Array Value) : Below B w0 (w.setRow g cs) :=
  ⟨h.os, h.tape, h.output, by simpa using h.size, fun i hi => (setRow_other w g i cs (by omega)).trans (h.block i hi)⟩
theorem name_world {P : Program} {c : Code} {Q : Exit → Act → World → Prop} {a : Act} {w : World} (h : ∀ W, Hid (w = W) → c.wp P Q a W) : c.wp P Q a w := h w rfl

/-- the words behind i bytes -/
def wst (b : List UInt8) (i : Nat) : List UInt32 := (List.range 64).map (Sha.word (b.take i))
theorem wst_len (b : List UInt8) (i : Nat) : (wst b i).length = 64 := by simp [wst]
theorem wst_zero (b : List UInt8) : wst b 0 = List.replicate 64 0 := by
  unfold wst Sha.word
  simp only [List.take_zero, List.drop_nil, List.take_nil]
  rfl
theorem zeros64 : UV (List.replicate 64 0) = List.replicate 64 (.int .u32 0) := by simp [UV, U]
theorem pw_snoc (l : List UInt8) (c : UInt8) : Sha.pw (l ++ [c]) = Sha.pw l <<< 8 ||| c.toUInt32 := by simp [Sha.pw, List.foldl_append]
theorem word_other (b : List UInt8) (i k : Nat) (h : i < b.length) (hk : k ≠ i / 4) : Sha.word (b.take (i + 1)) k = Sha.word (b.take i) k := by
  unfold Sha.word
  congr 1
  rw [List.take_succ_eq_append_getElem h]
  rcases Nat.lt_or_ge k (i / 4) with hlt | hge
  · rw [List.drop_append_of_le_length (by rw [List.length_take]; omega), List.take_append_of_le_length (by rw [List.length_drop, List.length_take]; omega)]
  · rw [List.drop_eq_nil_of_le (show (List.take i b).length ≤ 4 * k by rw [List.length_take]; omega), List.drop_eq_nil_of_le (by rw [List.length_append, List.length_take]; simp; omega)]
theorem word_same (b : List UInt8) (i : Nat) (h : i < b.length) : Sha.word (b.take (i + 1)) (i / 4) = Sha.word (b.take i) (i / 4) <<< 8 ||| (b[i]).toUInt32 := by
  unfold Sha.word
  rw [← pw_snoc]
  congr 1
  rw [List.take_succ_eq_append_getElem h, List.drop_append_of_le_length (by rw [List.length_take]; omega)]
  rw [List.take_of_length_le (l := List.drop (4 * (i / 4)) (List.take i b)) (by rw [List.length_drop, List.length_take]; omega)]
  rw [List.take_of_length_le (by rw [List.length_append, List.length_drop, List.length_take]; simp; omega)]
theorem wst_succ (b : List UInt8) (i : Nat) (h : i < b.length) (h64 : b.length ≤ 256) : wst b (i + 1) = (wst b i).set (i / 4) (Sha.word (b.take i) (i / 4) <<< 8 ||| (b[i]).toUInt32) := by
  apply List.ext_getElem?
  intro k
  by_cases hk : k < 64
  · rw [List.getElem?_set]
    by_cases hki : i / 4 = k
    · subst hki
      rw [if_pos rfl, if_pos (by rw [wst_len]; exact hk)]
      simp only [wst, List.getElem?_map, List.getElem?_range hk, Option.map_some]
      rw [word_same b i h]
    · rw [if_neg hki]
      simp only [wst, List.getElem?_map, List.getElem?_range hk, Option.map_some]
      rw [word_other b i k h (fun e => hki e.symm)]
  · rw [List.getElem?_eq_none (by rw [wst_len]; omega), List.getElem?_eq_none (by rw [List.length_set, wst_len]; omega)]
theorem wst_get (b : List UInt8) (i k : Nat) (h : k < 64) : (wst b i)[k]? = some (Sha.word (b.take i) k) := by
  simp only [wst, List.getElem?_map, List.getElem?_range h, Option.map_some]
theorem pw_or (x : UInt32) (c : UInt8) : bits .or .u32 ((x.toNat : Int) * 256 % 4294967296) (c.toNat : Int) = ((x <<< 8 ||| c.toUInt32).toNat : Int) := by
  have := U_shl x 8 (by omega)
  rw [show (2 : Int) ^ 8 = 256 from rfl] at this
  rw [this, show ((c.toNat : Nat) : Int) = ((c.toUInt32).toNat : Int) by simp, U_or]
  rfl

/-- the words behind the first loop, and t - 16 rounds of the second -/
def sst (b : List UInt8) (n : Nat) : List UInt32 := Sha.sched ((List.range 16).map (Sha.word b)) n ++ List.replicate (48 - n) 0
theorem sched_len (ws : List UInt32) (n : Nat) : (Sha.sched ws n).length = ws.length + n := by
  induction n with
  | zero => rfl
  | succ n ih => simp [Sha.sched, ih]; omega
theorem sst_len (b : List UInt8) (n : Nat) (h : n ≤ 48) : (sst b n).length = 64 := by simp [sst, sched_len]; omega
theorem sst_zero (b : List UInt8) (hb : b.length = 64) : wst b 64 = sst b 0 := by
  unfold wst sst
  rw [List.take_of_length_le (by omega), show 64 = 16 + 48 from rfl, List.range_add, List.map_append, List.map_map]
  show _ = (List.range 16).map (Sha.word b) ++ List.replicate 48 0
  congr 1
  apply List.ext_getElem?
  intro k
  by_cases hk : k < 48
  · rw [List.getElem?_map, List.getElem?_range hk, List.getElem?_replicate, if_pos hk]
    show some (Sha.word b (16 + k)) = _
    unfold Sha.word
    rw [List.drop_eq_nil_of_le (by omega)]
    rfl
  · rw [List.getElem?_eq_none (by simp; omega), List.getElem?_eq_none (by simp; omega)]
theorem sst_get (b : List UInt8) (n j : Nat) (h : j < 16 + n) : (sst b n)[j]? = some ((Sha.sched ((List.range 16).map (Sha.word b)) n).getD j 0) := by
  have hl : j < (Sha.sched ((List.range 16).map (Sha.word b)) n).length := by rw [sched_len]; simpa using h
  unfold sst
  rw [List.getElem?_append_left hl, List.getD_eq_getElem?_getD, List.getElem?_eq_getElem hl]
  rfl
theorem sst_succ (b : List UInt8) (n : Nat) (h : n < 48) : sst b (n + 1) = (sst b n).set (16 + n) (Sha.next (Sha.sched ((List.range 16).map (Sha.word b)) n) (16 + n)) := by
  have hl : (Sha.sched ((List.range 16).map (Sha.word b)) n).length = 16 + n := by rw [sched_len]; simp
  unfold sst
  rw [List.set_append_right _ _ (by omega), hl, Nat.sub_self, show 48 - n = (48 - (n + 1)) + 1 by omega, List.replicate_succ, List.set_cons_zero]
  simp [Sha.sched]
theorem sst_full (b : List UInt8) : sst b 48 = Sha.words b := by simp [sst, Sha.words]
theorem UV_set (l : List UInt32) (i : Nat) (x : UInt32) : (UV l).set i (U x) = UV (l.set i x) := by simp [UV, List.map_set]
theorem blk_UV {w : World} {g : Nat} {t : TypeId} {l : List UInt32} (h : Blk w g t (UV l).toArray) (i : Nat) (x : UInt32) (hx : l[i]? = some x) : w.cell? ⟨g, i, none⟩ = some (U x) := by
  rw [h.cell]
  simp [UV, hx]
theorem blk_UV_set {w : World} {g : Nat} {t : TypeId} {l : List UInt32} (h : Blk w g t (UV l).toArray) (i : Nat) (x : UInt32) : Blk (w.setCell ⟨g, i, none⟩ (U x)) g t (UV (l.set i x)).toArray := by
  have := h.set_ i (U x)
  rwa [List.setIfInBounds_toArray, UV_set] at this

theorem run_index_agg (w : World) (t e : TypeId) (n : Nat) (cs : Array Value) (i : Nat) (v : Value) (ht : Tryd.prog.underlying t = some (.array n e)) (ha : ∀ W, (isAgg e).run Tryd.prog W = .ok false W) (hs : ∀ W, (sizeOf e).run Tryd.prog W = .ok 1 W)
    (hi : i < n) (hv : cs[i]? = some v) : (Instr.index t (.agg cs) (.int .i64 (i : Int))).run Tryd.prog w = .ok v w := by
  unfold Instr.index
  have h2 : (0 : Int) ≤ (i : Int) ∧ (i : Int) < (n : Int) := by omega
  have h3 : ¬ n ≤ i := by omega
  simp [asIntOf, run_underlying ht, part, ha, hs, h2, h3, hv]
theorem byteAgg (W : World) : (isAgg 5).run Tryd.prog W = .ok false W := by kernel_rfl
theorem byteOne (W : World) : (sizeOf 5).run Tryd.prog W = .ok 1 W := by kernel_rfl
theorem wordAgg (W : World) : (isAgg 75).run Tryd.prog W = .ok false W := by kernel_rfl
theorem wordOne (W : World) : (sizeOf 75).run Tryd.prog W = .ok 1 W := by kernel_rfl
theorem blockSize : (Tryd.prog.info? 77).map (·.size) = some 64 := by kernel_rfl
theorem wordsSize : (Tryd.prog.info? 97).map (·.size) = some 64 := by kernel_rfl

set_option maxHeartbeats 400000 in
set_option maxRecDepth 100000 in
theorem words_any (b : List UInt8) (w : World) (hb : b.length = 64) :
    Calls Tryd.prog 72 #[.agg (BV b).toArray] w fun e w' => e = .returned (.agg (UV (Sha.words b)).toArray) ∧ Below w.heap.size w w' := by
  have hcs : (BV b).length = 64 := by rw [BV_len]; exact hb
  have HBG := hide (BV_get b)
  generalize BV b = cs at *
  have HC := hide hcs
  have HB := hide hb
  clear hcs hb
  go_enter Tryd.func72, Tryd.ntmps72
  go_upto_region 2 with fail
  refine name_world fun W hW => ?_
  have H1 := hide (show W.heap[w.heap.size]? = some (.cells cs.toArray 77 (0, 0)) by rw [← hW.out]; exact ((Blk.new w _ _).alloc _).alloc _)
  have H2 := hide (show Blk W (w.heap.size + 1) 97 (UV (wst b 0)).toArray by
    rw [← hW.out, wst_zero, zeros64]
    have := (Blk.new (w.alloc (.cells cs.toArray 77)) 97 (List.replicate 64 (.int .u32 0)).toArray).alloc (.cells (List.replicate 64 (.int .u32 0)).toArray 97)
    rw [show (w.alloc (.cells cs.toArray 77)).heap.size = w.heap.size + 1 by simp] at this
    exact this)
  have H3 := hide (show Blk W (w.heap.size + 1 + 1) 97 (UV (wst b 0)).toArray by
    rw [← hW.out, wst_zero, zeros64]
    have := Blk.new ((w.alloc (.cells cs.toArray 77)).alloc (.cells (List.replicate 64 (.int .u32 0)).toArray 97)) 97 (List.replicate 64 (.int .u32 0)).toArray
    rw [show ((w.alloc (.cells cs.toArray 77)).alloc (.cells (List.replicate 64 (.int .u32 0)).toArray 97)).heap.size = w.heap.size + 1 + 1 by simp] at this
    exact this)
  have HW := hide (show Below w.heap.size w W by rw [← hW.out]; exact (((Below.refl _ _).alloc (Nat.le_refl _) _).alloc (by simp) _).alloc (by simp; omega) _)
  clear hW
  go_wp2_with (with_reducible refine wpList_load_row rfl 77 (.tmp 1) rfl w.heap.size rfl 77 cs.toArray (0, 0) _ H1.out Tryd.underlying77 rfl ?c1 ?_)
  case c1 => rw [List.size_toArray, HC.out]; exact blockSize
  go_loopw [12] (fun i wr => ∃ k : Nat, k ≤ 64 ∧ i = .int .i64 (k : Int) ∧ Blk wr (w.heap.size + 1 + 1) 97 (UV (wst b k)).toArray ∧ Blk wr (w.heap.size + 1) 97 (UV (wst b 0)).toArray ∧ Below w.heap.size w wr) (fun i _ => 64 - (intOf i).toNat)
  case atStart => exact ⟨0, Nat.zero_le _, rfl, H3.out, H2.out, HW.out⟩
  case round =>
    obtain ⟨k, hk, rfl, hB3, hB2, hbel⟩ := hrel
    by_cases hlt : k < 64
    · have hkb : k < b.length := by have := HB.out; omega
      have hix := fun W => run_index_agg W 77 5 64 cs.toArray k _ Tryd.underlying77 byteAgg byteOne hlt (by rw [List.getElem?_toArray]; exact HBG.out k hkb)
      have hcell := blk_UV hB3 (k / 4) _ (wst_get b k (k / 4) (by omega))
      have hfz := hB3.frozen (k / 4)
      have hpw := pw_or (Sha.word (b.take k) (k / 4)) b[k]
      have HS := hide (wst_succ b k hkb (by have := HB.out; omega))
      have hby := (b[k]).toNat_lt
      have HS := HS.out
      generalize Sha.word (b.take k) (k / 4) <<< 8 ||| (b[k]).toUInt32 = nw at *
      have HS := hide HS
      generalize (b[k]).toNat = cb at *
      have H3' := hide hB3
      have H2' := hide hB2
      clear hB3 hB2
      go_wp2
      go_roundw
      case rel =>
        refine ⟨k + 1, by omega, by go_num, ?_, ?_, ?_⟩
        · rw [HS.out]; exact blk_UV_set H3'.out _ _
        · exact H2'.out.far (by show w.heap.size + 1 ≠ w.heap.size + 1 + 1; omega) _
        · exact hbel.setCell (by show w.heap.size ≤ w.heap.size + 1 + 1; omega) _
      case measure => simp [intOf]; omega
    · obtain rfl : k = 64 := by omega
      rw [show ((64 : Nat) : Int) = 64 from rfl]
      rw [sst_zero b HB.out] at hB3
      obtain ⟨wd, rfl⟩ : ∃ wd, wd = wr := ⟨wr, rfl⟩
      have H3' := hide hB3
      have H2' := hide hB2
      have HW' := hide hbel
      clear hB3 hB2 hbel
      go_wp2_with fail
      go_loopw [6] (fun i wr => ∃ n t : Nat, n ≤ 48 ∧ t = 16 + n ∧ i = .int .i64 (t : Int) ∧ Blk wr (w.heap.size + 1 + 1) 97 (UV (sst b n)).toArray ∧ Blk wr (w.heap.size + 1) 97 (UV (wst b 0)).toArray ∧ Below w.heap.size w wr) (fun i _ => 64 - (intOf i).toNat)
      case atStart => exact ⟨0, 16, Nat.zero_le _, rfl, rfl, H3'.out, H2'.out, HW'.out⟩
      case round =>
        obtain ⟨n, t, hn, htn, rfl, hB3, hB2, hbel⟩ := hrel
        by_cases hlt : t < 64
        · have c16 := blk_UV hB3 (t - 16) _ (sst_get b n (t - 16) (by omega))
          have c15 := blk_UV hB3 (t - 15) _ (sst_get b n (t - 15) (by omega))
          have c7 := blk_UV hB3 (t - 7) _ (sst_get b n (t - 7) (by omega))
          have c2 := blk_UV hB3 (t - 2) _ (sst_get b n (t - 2) (by omega))
          have hfz := hB3.frozen t
          have hct : wr.cell? ⟨w.heap.size + 1 + 1, t, none⟩ = some (U ((sst b n)[t]'(by rw [sst_len b n hn]; exact hlt))) := blk_UV hB3 t _ (List.getElem?_eq_getElem (by rw [sst_len b n hn]; exact hlt))
          generalize (sst b n)[t]'(by rw [sst_len b n hn]; exact hlt) = old at *
          have hst := sst_succ b n (by omega)
          rw [← htn] at hst
          unfold Sha.next at hst
          generalize (Sha.sched ((List.range 16).map (Sha.word b)) n).getD (t - 16) 0 = x16 at *
          generalize (Sha.sched ((List.range 16).map (Sha.word b)) n).getD (t - 15) 0 = x15 at *
          generalize (Sha.sched ((List.range 16).map (Sha.word b)) n).getD (t - 7) 0 = x7 at *
          generalize (Sha.sched ((List.range 16).map (Sha.word b)) n).getD (t - 2) 0 = x2 at *
          have HS := hide hst
          have H3'' := hide hB3
          have H2'' := hide hB2
          have HT := hide htn
          clear hB3 hB2 hst htn
          have t16 : 16 ≤ t := by have := HT.out; omega
          have b1 : (0 : Int) ≤ (t : Int) - 16 := by omega
          have b2 : (0 : Int) ≤ (t : Int) - 15 := by omega
          have b3 : (0 : Int) ≤ (t : Int) - 7 := by omega
          have b4 : (0 : Int) ≤ (t : Int) - 2 := by omega
          have b5 : (t : Int) < 64 := by omega
          have e1 : ((t : Int) - 16).toNat = t - 16 := by omega
          have e2 : ((t : Int) - 15).toNat = t - 15 := by omega
          have e3 : ((t : Int) - 7).toNat = t - 7 := by omega
          have e4 : ((t : Int) - 2).toNat = t - 2 := by omega
          go_wp2
          have v1 : IntKind.i64.wrap ((t : Int) - 16) = (t : Int) - 16 := IntWalk.i64_in _ (by omega)
          have v2 : IntKind.i64.wrap ((t : Int) - 15) = (t : Int) - 15 := IntWalk.i64_in _ (by omega)
          have v3 : IntKind.i64.wrap ((t : Int) - 7) = (t : Int) - 7 := IntWalk.i64_in _ (by omega)
          have v4 : IntKind.i64.wrap ((t : Int) - 2) = (t : Int) - 2 := IntWalk.i64_in _ (by omega)
          go_quiet (fail)
          clear v1 v2 v3 v4
          have s3 : (x15.toNat : Int) / 8 = ((ws x15 3).toNat : Int) := by have := U_shr x15 3 (by omega); exact this
          have s10 : (x2.toNat : Int) / 1024 = ((ws x2 10).toNat : Int) := by have := U_shr x2 10 (by omega); exact this
          have rx := wx_is
          have H7 := hide (fun W => rotr_7 x15 W)
          have H18 := hide (fun W => rotr_18 x15 W)
          have H17 := hide (fun W => rotr_17 x2 W)
          have H19 := hide (fun W => rotr_19 x2 W)
          go_wp2_with (first
            | (go_at_call_of 73 (Value.int .i64 7); refine (unhide H7 _).mono ?_; rintro e w' ⟨rfl, rfl⟩)
            | (go_at_call_of 73 (Value.int .i64 18); refine (unhide H18 _).mono ?_; rintro e w' ⟨rfl, rfl⟩)
            | (go_at_call_of 73 (Value.int .i64 17); refine (unhide H17 _).mono ?_; rintro e w' ⟨rfl, rfl⟩)
            | (go_at_call_of 73 (Value.int .i64 19); refine (unhide H19 _).mono ?_; rintro e w' ⟨rfl, rfl⟩))
          have rp := wp_is
          have rpw := wp_isw
          have v1 : IntKind.i64.wrap ((t : Int) - 16) = (t : Int) - 16 := IntWalk.i64_in _ (by omega)
          have v3 : IntKind.i64.wrap ((t : Int) - 7) = (t : Int) - 7 := IntWalk.i64_in _ (by omega)
          have d1 : (16 : Int) ≤ (t : Int) := by omega
          have d2 : (7 : Int) ≤ (t : Int) := by omega
          have d3 : (t : Int) - 16 < 64 := by omega
          have d4 : (t : Int) - 7 < 64 := by omega
          have d5 : (0 : Int) ≤ (t : Int) := by omega
          have C16 : ∀ tp dr o out, ({ heap := wr.heap, tape := tp, drawn := dr, os := o, output := out } : World).cell? ⟨w.heap.size + 1 + 1, t - 16, none⟩ = some (U x16) := fun _ _ _ _ => c16
          have C7 : ∀ tp dr o out, ({ heap := wr.heap, tape := tp, drawn := dr, os := o, output := out } : World).cell? ⟨w.heap.size + 1 + 1, t - 7, none⟩ = some (U x7) := fun _ _ _ _ => c7
          go_still_tail 15, (by kernel_rfl)
          clear v1 v3
          change wpList _ _ _ _ _ (wr.drewN nq).drew
          go_wp2
          go_roundw
          case rel =>
            have ht := HT.out
            refine ⟨n + 1, t + 1, by omega, by omega, by go_num, ?_, ?_, ?_⟩
            · rw [HS.out]; exact blk_UV_set (w := (wr.drewN nq).drew) H3''.out t _
            · exact Blk.far (w := (wr.drewN nq).drew) H2''.out (by show w.heap.size + 1 ≠ w.heap.size + 1 + 1; omega) _
            · exact (below_drewN hbel nq).drew.setCell (by show w.heap.size ≤ w.heap.size + 1 + 1; omega) _
          case measure => simp [intOf]; omega
        · obtain rfl : n = 48 := by omega
          rw [sst_full] at hB3
          have hlen : (UV (Sha.words b)).length = 64 := by rw [UV_len, ← sst_full, sst_len b 48 (by omega)]
          have hlen0 : (UV (wst b 0)).length = 64 := by rw [UV_len, wst_len]
          have hone : ∀ v ∈ UV (Sha.words b), v.oneCell' = true := by
            intro v hv
            simp only [UV, List.mem_map] at hv
            obtain ⟨c, _, rfl⟩ := hv
            rfl
          have HL := hide hlen
          have HL0 := hide hlen0
          have H1' := hide hone
          have H3'' := hide (show wr.heap[w.heap.size + 1 + 1]? = some (.cells (UV (Sha.words b)).toArray 97 (0, 0)) from hB3)
          have H2'' := hide (show wr.heap[w.heap.size + 1]? = some (.cells (UV (wst b 0)).toArray 97 (0, 0)) from hB2)
          clear hB3 hB2 hlen hlen0 hone
          generalize hout : UV (Sha.words b) = out at *
          have HOUT := hide hout
          clear hout
          generalize UV (wst b 0) = zer at *
          go_wp2_with (first | (with_reducible refine wpList_load_row rfl 97 (.tmp 3) rfl (w.heap.size + 1 + 1) rfl 97 out.toArray (0, 0) _ H3''.out Tryd.underlying97 rfl ?c1 ?_) | (with_reducible refine wpList_store_row rfl 97 (.tmp 2) (.tmp 71) rfl (w.heap.size + 1) out.toArray rfl rfl 97 zer.toArray H2''.out ?d1 ?d2 ?d3 ?_))
          case c1 => rw [List.size_toArray, HL.out]; exact wordsSize
          case d1 => rw [List.size_toArray, HL.out]; exact wordsSize
          case d2 => rw [List.size_toArray, List.size_toArray, HL.out, HL0.out]
          case d3 => simpa using H1'.out
          have hload : (loadVar 97 ⟨w.heap.size + 1, 0, none⟩).run Tryd.prog (wr.setRow (w.heap.size + 1) out.toArray) = .ok (.agg out.toArray) (wr.setRow (w.heap.size + 1) out.toArray) :=
            run_loadVar_row _ _ _ _ _ _ _ (setRow_heap wr (w.heap.size + 1) _ out.toArray _ _ H2''.out) Tryd.underlying97 rfl (by rw [List.size_toArray, HL.out]; exact wordsSize)
          exact bodyPost_ret (v := .agg out.toArray) (results_cell0 Tryd.results72 _ _ ⟨w.heap.size + 1, 0, none⟩ _ rfl hload) rfl ⟨by rw [HOUT.out], below_setRow hbel (by omega) _⟩
end Go.Proofs.YtedgjpoejoepjaaDoor
