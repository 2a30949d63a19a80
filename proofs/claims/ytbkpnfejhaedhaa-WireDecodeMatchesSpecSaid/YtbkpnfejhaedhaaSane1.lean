/-
  The examples that every statement contains: each call of them, over any world.
-/
import Derived.Test.YtbkpnfejhaedhaaRef2
namespace Go.Proofs.Ytbkpnfejhaedhaa
open Go.RowKit
set_option linter.unusedVariables false
set_option linter.unusedSimpArgs false

theorem lit_reads (X : World) (l : List UInt8) (cs : Array Value) (n : Nat) (h : cs = (BV l).toArray) (hn : l.length = n) : Reads (X.alloc (.cells cs 5)) (X.alloc (.cells cs 5)).heap.size 1 (some ⟨X.heap.size, 0, none⟩) n (BV l) := by
  subst h
  exact reads_block X (BV l) _ n (by rw [BV_len]; exact hn)

theorem sane1 (X : World) : Calls Try.prog 24 #[.slice (some ⟨X.heap.size, 0, none⟩) 4 4] (X.alloc (.cells #[.int .u8 130, .int .u8 1, .int .u8 0, .int .u8 9] 5)) fun e w' =>
    e = .returned (.tuple #[.int .i64 256, .int .i64 3, .int .i64 0]) ∧ Below X.heap.size X w' := by
  have hd : Wr.decI [130, 1, 0, 9] = (256, 3, 0) := by decide +kernel
  have := getInt_any (some ⟨X.heap.size, 0, none⟩) 4 4 [130, 1, 0, 9] _ (lit_reads X [130, 1, 0, 9] #[.int .u8 130, .int .u8 1, .int .u8 0, .int .u8 9] 4 rfl rfl) (by decide) (by decide)
  rw [hd] at this
  exact this.mono fun e w' ⟨h1, h2⟩ => ⟨h1, by rw [← h2]; exact (Below.refl _ _).alloc (Nat.le_refl _) _⟩
theorem sane2 (X : World) : Calls Try.prog 24 #[.slice (some ⟨X.heap.size, 0, none⟩) 2 2] (X.alloc (.cells #[.int .u8 130, .int .u8 1] 5)) fun e w' =>
    e = .returned (.tuple #[.int .i64 0, .int .i64 0, .int .i64 3]) ∧ Below X.heap.size X w' := by
  have hd : Wr.decI [130, 1] = (0, 0, 3) := by decide +kernel
  have := getInt_any (some ⟨X.heap.size, 0, none⟩) 2 2 [130, 1] _ (lit_reads X [130, 1] #[.int .u8 130, .int .u8 1] 2 rfl rfl) (by decide) (by decide)
  rw [hd] at this
  exact this.mono fun e w' ⟨h1, h2⟩ => ⟨h1, by rw [← h2]; exact (Below.refl _ _).alloc (Nat.le_refl _) _⟩
theorem sane3 (X : World) : Calls Try.prog 24 #[.slice (some ⟨X.heap.size, 0, none⟩) 2 2] (X.alloc (.cells #[.int .u8 129, .int .u8 0] 5)) fun e w' =>
    e = .returned (.tuple #[.int .i64 0, .int .i64 0, .int .i64 2]) ∧ Below X.heap.size X w' := by
  have hd : Wr.decI [129, 0] = (0, 0, 2) := by decide +kernel
  have := getInt_any (some ⟨X.heap.size, 0, none⟩) 2 2 [129, 0] _ (lit_reads X [129, 0] #[.int .u8 129, .int .u8 0] 2 rfl rfl) (by decide) (by decide)
  rw [hd] at this
  exact this.mono fun e w' ⟨h1, h2⟩ => ⟨h1, by rw [← h2]; exact (Below.refl _ _).alloc (Nat.le_refl _) _⟩
theorem sane4 (X : World) : Calls Try.prog 26 #[.slice (some ⟨X.heap.size, 0, none⟩) 5 5] (X.alloc (.cells #[.int .u8 129, .int .u8 2, .int .u8 97, .int .u8 98, .int .u8 7] 5)) fun e w' =>
    e = .returned (.tuple #[.string { data := #[97, 98] }, .int .i64 4, .int .i64 0]) ∧ Below X.heap.size X w' := by
  have hd : Wr.decB [129, 2, 97, 98, 7] = ([97, 98], 4, 0) := by decide +kernel
  have := getBytes_any (some ⟨X.heap.size, 0, none⟩) 5 5 [129, 2, 97, 98, 7] _ (lit_reads X [129, 2, 97, 98, 7] #[.int .u8 129, .int .u8 2, .int .u8 97, .int .u8 98, .int .u8 7] 5 rfl rfl) (by decide) (by decide)
  rw [hd] at this
  exact this.mono fun e w' ⟨h1, h2⟩ => ⟨h1, by rw [← h2]; exact (Below.refl _ _).alloc (Nat.le_refl _) _⟩
theorem sane5 (X : World) : Calls Try.prog 28 #[.slice (some ⟨X.heap.size, 0, none⟩) 5 5] (X.alloc (.cells #[.int .u8 129, .int .u8 2, .int .u8 129, .int .u8 1, .int .u8 127] 5)) fun e w' =>
    ∃ A c, e = .returned (.tuple #[.slice A 2 c, .int .i64 5, .int .i64 0]) ∧ Reads w' w'.heap.size 1 A 2 [.int .i64 1, .int .i64 (-1)] ∧ Below X.heap.size X w' := by
  have hd : Wr.decList 1 Wr.decI [129, 2, 129, 1, 127] = ([1, -1], 5, 0) := by decide +kernel
  have := getInts_any (some ⟨X.heap.size, 0, none⟩) 5 5 [129, 2, 129, 1, 127] _ (lit_reads X [129, 2, 129, 1, 127] #[.int .u8 129, .int .u8 2, .int .u8 129, .int .u8 1, .int .u8 127] 5 rfl rfl) (by decide) (by decide)
  rw [hd] at this
  refine this.mono fun e w' ⟨v, h1, h2, h3⟩ => ?_
  obtain ⟨A, c, rfl, _, _⟩ := own_slice h2
  exact ⟨A, c, h1, Reads.of_own h2, (((Below.refl _ _).alloc (Nat.le_refl _) _)).trans (h3.mono (by simp))⟩
theorem sane8 (X : World) : Calls Try.prog 31 #[.slice (some ⟨X.heap.size, 0, none⟩) 7 7] (X.alloc (.cells #[.int .u8 129, .int .u8 2, .int .u8 128, .int .u8 129, .int .u8 1, .int .u8 97, .int .u8 5] 5)) fun e w' =>
    ∃ A c, e = .returned (.tuple #[.slice A 2 c, .int .i64 6, .int .i64 0]) ∧ Reads w' w'.heap.size 1 A 2 [.string { data := #[] }, .string { data := #[97] }] ∧ Below X.heap.size X w' := by
  have hd : Wr.decList 1 Wr.decB [129, 2, 128, 129, 1, 97, 5] = ([[], [97]], 6, 0) := by decide +kernel
  have := getStrings_any (some ⟨X.heap.size, 0, none⟩) 7 7 [129, 2, 128, 129, 1, 97, 5] _ (lit_reads X [129, 2, 128, 129, 1, 97, 5] #[.int .u8 129, .int .u8 2, .int .u8 128, .int .u8 129, .int .u8 1, .int .u8 97, .int .u8 5] 7 rfl rfl) (by decide) (by decide)
  rw [hd] at this
  refine this.mono fun e w' ⟨v, h1, h2, h3⟩ => ?_
  obtain ⟨A, c, rfl, _, _⟩ := own_slice h2
  exact ⟨A, c, h1, Reads.of_own h2, (((Below.refl _ _).alloc (Nat.le_refl _) _)).trans (h3.mono (by simp))⟩
/-- the digest of the examples -/
def dig12 : List UInt8 := [1, 2, 0, 0, 0, 0, 0, 0, 0, 0, 0, 0, 0, 0, 0, 0]
theorem sane6 (X : World) : Calls Try.prog 22 #[.slice (some ⟨X.heap.size, 0, none⟩) 1 1] (X.alloc (.cells #[.int .u8 1, .int .u8 2, .int .u8 0, .int .u8 0, .int .u8 0, .int .u8 0, .int .u8 0, .int .u8 0, .int .u8 0, .int .u8 0, .int .u8 0, .int .u8 0, .int .u8 0, .int .u8 0, .int .u8 0, .int .u8 0] 57)) fun e w' =>
    ∃ A c, e = .returned (.slice A 18 c) ∧ 18 ≤ c ∧ Reads w' w'.heap.size 1 A 18 (BV (Wr.enc 1 ++ dig12)) ∧ Below X.heap.size X w' := by
  have hr : Reads (X.alloc (.cells #[.int .u8 1, .int .u8 2, .int .u8 0, .int .u8 0, .int .u8 0, .int .u8 0, .int .u8 0, .int .u8 0, .int .u8 0, .int .u8 0, .int .u8 0, .int .u8 0, .int .u8 0, .int .u8 0, .int .u8 0, .int .u8 0] 57)) (X.alloc (.cells #[.int .u8 1, .int .u8 2, .int .u8 0, .int .u8 0, .int .u8 0, .int .u8 0, .int .u8 0, .int .u8 0, .int .u8 0, .int .u8 0, .int .u8 0, .int .u8 0, .int .u8 0, .int .u8 0, .int .u8 0, .int .u8 0] 57)).heap.size 16 (some ⟨X.heap.size, 0, none⟩) 1 (BV [dig12].flatten) := by
    have h := reads_block X (BV dig12) 57 16 rfl
    exact ⟨rfl, fun _ => h.2 (by omega)⟩
  have := digests_any (some ⟨X.heap.size, 0, none⟩) 1 1 [dig12] _ hr (by decide) (by decide) (by intro d hd; simp at hd; subst hd; rfl) rfl
  refine this.mono fun e w' ⟨v, h1, h2, h3⟩ => ?_
  have h2' : w'.ownsRow (X.alloc (.cells #[.int .u8 1, .int .u8 2, .int .u8 0, .int .u8 0, .int .u8 0, .int .u8 0, .int .u8 0, .int .u8 0, .int .u8 0, .int .u8 0, .int .u8 0, .int .u8 0, .int .u8 0, .int .u8 0, .int .u8 0, .int .u8 0] 57)).heap.size 5 1 v 18 (BV (Wr.enc 1 ++ dig12)) := h2
  obtain ⟨A, c, rfl, hc, _⟩ := own_slice h2'
  exact ⟨A, c, h1, hc, Reads.of_own h2', (((Below.refl _ _).alloc (Nat.le_refl _) _)).trans (h3.mono (by simp))⟩
theorem sane7 (X : World) (A : Option Addr) (c : Nat) (hc : 18 ≤ c) (hr : Reads X X.heap.size 1 A 18 (BV (Wr.enc 1 ++ dig12))) : Calls Try.prog 34 #[.slice A 18 c] X fun e w' =>
    ∃ A' c', e = .returned (.tuple #[.slice A' 1 c', .int .i64 18, .int .i64 0]) ∧ 1 ≤ c' ∧ Reads w' w'.heap.size 16 A' 1 (BV [dig12].flatten) ∧ Below X.heap.size X w' := by
  have hd : digestsOf (Wr.enc 1 ++ dig12) = ([dig12], 18, 0) := by decide +kernel
  have := getDigests_any A 18 c (Wr.enc 1 ++ dig12) X hr (by decide) hc
  rw [hd] at this
  refine this.mono fun e w' ⟨v, h1, _, h2, h3⟩ => ?_
  obtain ⟨A', c', rfl, hc', _⟩ := own_slice h2
  exact ⟨A', c', h1, hc', Reads.of_own h2, h3⟩
theorem sane9 (X : World) : Calls Try.prog 14 #[.int .i64 (-257)] X fun e w' =>
    ∃ A c, e = .returned (.slice A 3 c) ∧ Reads w' w'.heap.size 1 A 3 (BV [125, 254, 255]) ∧ Below X.heap.size X w' := by
  have hd : Wr.enc (-257) = [125, 254, 255] := by decide +kernel
  have := int_any (-257) X (by unfold Wr.inI; omega)
  rw [hd] at this
  refine this.mono fun e w' ⟨v, h1, h2, h3⟩ => ?_
  obtain ⟨A, c, rfl, _, _⟩ := own_slice h2
  exact ⟨A, c, h1, Reads.of_own h2, h3⟩
theorem sane10 (X : World) : Calls Try.prog 16 #[.string { data := #[97, 98] }] X fun e w' =>
    ∃ A c, e = .returned (.slice A 4 c) ∧ Reads w' w'.heap.size 1 A 4 (BV [129, 2, 97, 98]) ∧ Below X.heap.size X w' := by
  have hd : Wr.enc (([97, 98] : List UInt8).length : Nat) ++ [97, 98] = [129, 2, 97, 98] := by decide +kernel
  have := bytes_any [97, 98] X (by decide)
  rw [hd] at this
  refine this.mono fun e w' ⟨v, h1, h2, h3⟩ => ?_
  have h2' : w'.ownsRow X.heap.size 5 1 v 4 (BV [129, 2, 97, 98]) := h2
  obtain ⟨A, c, rfl, _, _⟩ := own_slice h2'
  exact ⟨A, c, h1, Reads.of_own h2', h3⟩
theorem sane11 (X : World) : Calls Try.prog 18 #[.slice (some ⟨X.heap.size, 0, none⟩) 2 2] (X.alloc (.cells #[.int .i64 1, .int .i64 (-1)] 3)) fun e w' =>
    ∃ A c, e = .returned (.slice A 5 c) ∧ Reads w' w'.heap.size 1 A 5 (BV [129, 2, 129, 1, 127]) ∧ Below X.heap.size X w' := by
  have hd : Wr.enc (([1, -1] : List Int).length : Nat) ++ Wr.encL Wr.enc [1, -1] = [129, 2, 129, 1, 127] := by decide +kernel
  have := ints_any (some ⟨X.heap.size, 0, none⟩) 2 2 [1, -1] _ (reads_block X [.int .i64 1, .int .i64 (-1)] 3 2 rfl) (by decide) (by decide) (by decide +kernel) (by intro x hx; simp at hx; unfold Wr.inI; omega)
  rw [hd] at this
  refine this.mono fun e w' ⟨v, h1, h2, h3⟩ => ?_
  have h2' : w'.ownsRow (X.alloc (.cells #[.int .i64 1, .int .i64 (-1)] 3)).heap.size 5 1 v 5 (BV [129, 2, 129, 1, 127]) := h2
  obtain ⟨A, c, rfl, _, _⟩ := own_slice h2'
  exact ⟨A, c, h1, Reads.of_own h2', (((Below.refl _ _).alloc (Nat.le_refl _) _)).trans (h3.mono (by simp))⟩
theorem sane12 (X : World) : Calls Try.prog 20 #[.slice (some ⟨X.heap.size, 0, none⟩) 2 2] (X.alloc (.cells #[.string { data := #[] }, .string { data := #[97] }] 9)) fun e w' =>
    ∃ A c, e = .returned (.slice A 6 c) ∧ Reads w' w'.heap.size 1 A 6 (BV [129, 2, 128, 129, 1, 97]) ∧ Below X.heap.size X w' := by
  have hd : Wr.enc (([[], [97]] : List (List UInt8)).length : Nat) ++ Wr.encL Wr.encB [[], [97]] = [129, 2, 128, 129, 1, 97] := by decide +kernel
  have := strings_any (some ⟨X.heap.size, 0, none⟩) 2 2 [[], [97]] _ (reads_block X [.string { data := #[] }, .string { data := #[97] }] 9 2 rfl) (by decide) (by decide) (by decide +kernel)
  rw [hd] at this
  refine this.mono fun e w' ⟨v, h1, h2, h3⟩ => ?_
  have h2' : w'.ownsRow (X.alloc (.cells #[.string { data := #[] }, .string { data := #[97] }] 9)).heap.size 5 1 v 6 (BV [129, 2, 128, 129, 1, 97]) := h2
  obtain ⟨A, c, rfl, _, _⟩ := own_slice h2'
  exact ⟨A, c, h1, Reads.of_own h2', (((Below.refl _ _).alloc (Nat.le_refl _) _)).trans (h3.mono (by simp))⟩
theorem quiet_below {X w' : World} {B : Nat} (h : ∃ k, w' = X.drewN k) : Below B X w' := by obtain ⟨k, rfl⟩ := h; exact below_drewN (Below.refl _ _) k
theorem bv_items (l : List UInt8) (k : Nat) (h : k < (BV l).length) : (BV l)[k] = .int .u8 ((l.getD k 0).toNat : Int) := by
  have hk : k < l.length := by rw [BV_len] at h; exact h
  simp [BV, List.getD, List.getElem?_eq_getElem hk]
theorem same3 (X : World) (A : Option Addr) (c : Nat) (hr : Reads X X.heap.size 1 A 3 (BV [125, 254, 255])) : Calls Try.prog 13 #[.slice A 3 c, .slice (some ⟨X.heap.size, 0, none⟩) 3 3] (X.alloc (.cells #[.int .u8 125, .int .u8 254, .int .u8 255] 5)) fun e w' =>
    e = .returned (.bool true) ∧ Below X.heap.size X w' := by
  have hb : Reads (X.alloc (.cells #[.int .u8 125, .int .u8 254, .int .u8 255] 5)) (X.alloc (.cells #[.int .u8 125, .int .u8 254, .int .u8 255] 5)).heap.size 1 (some ⟨X.heap.size, 0, none⟩) 3 (BV [125, 254, 255]) := reads_block X (BV [125, 254, 255]) 5 3 rfl
  refine (same_eq A _ 3 c 3 (BV [125, 254, 255]) (fun k => ((([125, 254, 255] : List UInt8).getD k 0).toNat : Int)) _ (bv_items [125, 254, 255]) ((hr.alloc (Nat.le_refl _) _).more (by simp)) hb (by decide)).mono fun e w' ⟨h1, h2⟩ => ⟨h1, (((Below.refl _ _).alloc (Nat.le_refl _) _)).trans (quiet_below h2)⟩
theorem same4 (X : World) (A : Option Addr) (c : Nat) (hr : Reads X X.heap.size 1 A 4 (BV [129, 2, 97, 98])) : Calls Try.prog 13 #[.slice A 4 c, .slice (some ⟨X.heap.size, 0, none⟩) 4 4] (X.alloc (.cells #[.int .u8 129, .int .u8 2, .int .u8 97, .int .u8 98] 5)) fun e w' =>
    e = .returned (.bool true) ∧ Below X.heap.size X w' := by
  have hb : Reads (X.alloc (.cells #[.int .u8 129, .int .u8 2, .int .u8 97, .int .u8 98] 5)) (X.alloc (.cells #[.int .u8 129, .int .u8 2, .int .u8 97, .int .u8 98] 5)).heap.size 1 (some ⟨X.heap.size, 0, none⟩) 4 (BV [129, 2, 97, 98]) := reads_block X (BV [129, 2, 97, 98]) 5 4 rfl
  refine (same_eq A _ 4 c 4 (BV [129, 2, 97, 98]) (fun k => ((([129, 2, 97, 98] : List UInt8).getD k 0).toNat : Int)) _ (bv_items [129, 2, 97, 98]) ((hr.alloc (Nat.le_refl _) _).more (by simp)) hb (by decide)).mono fun e w' ⟨h1, h2⟩ => ⟨h1, (((Below.refl _ _).alloc (Nat.le_refl _) _)).trans (quiet_below h2)⟩
theorem same5 (X : World) (A : Option Addr) (c : Nat) (hr : Reads X X.heap.size 1 A 5 (BV [129, 2, 129, 1, 127])) : Calls Try.prog 13 #[.slice A 5 c, .slice (some ⟨X.heap.size, 0, none⟩) 5 5] (X.alloc (.cells #[.int .u8 129, .int .u8 2, .int .u8 129, .int .u8 1, .int .u8 127] 5)) fun e w' =>
    e = .returned (.bool true) ∧ Below X.heap.size X w' := by
  have hb : Reads (X.alloc (.cells #[.int .u8 129, .int .u8 2, .int .u8 129, .int .u8 1, .int .u8 127] 5)) (X.alloc (.cells #[.int .u8 129, .int .u8 2, .int .u8 129, .int .u8 1, .int .u8 127] 5)).heap.size 1 (some ⟨X.heap.size, 0, none⟩) 5 (BV [129, 2, 129, 1, 127]) := reads_block X (BV [129, 2, 129, 1, 127]) 5 5 rfl
  refine (same_eq A _ 5 c 5 (BV [129, 2, 129, 1, 127]) (fun k => ((([129, 2, 129, 1, 127] : List UInt8).getD k 0).toNat : Int)) _ (bv_items [129, 2, 129, 1, 127]) ((hr.alloc (Nat.le_refl _) _).more (by simp)) hb (by decide)).mono fun e w' ⟨h1, h2⟩ => ⟨h1, (((Below.refl _ _).alloc (Nat.le_refl _) _)).trans (quiet_below h2)⟩
theorem same6 (X : World) (A : Option Addr) (c : Nat) (hr : Reads X X.heap.size 1 A 6 (BV [129, 2, 128, 129, 1, 97])) : Calls Try.prog 13 #[.slice A 6 c, .slice (some ⟨X.heap.size, 0, none⟩) 6 6] (X.alloc (.cells #[.int .u8 129, .int .u8 2, .int .u8 128, .int .u8 129, .int .u8 1, .int .u8 97] 5)) fun e w' =>
    e = .returned (.bool true) ∧ Below X.heap.size X w' := by
  have hb : Reads (X.alloc (.cells #[.int .u8 129, .int .u8 2, .int .u8 128, .int .u8 129, .int .u8 1, .int .u8 97] 5)) (X.alloc (.cells #[.int .u8 129, .int .u8 2, .int .u8 128, .int .u8 129, .int .u8 1, .int .u8 97] 5)).heap.size 1 (some ⟨X.heap.size, 0, none⟩) 6 (BV [129, 2, 128, 129, 1, 97]) := reads_block X (BV [129, 2, 128, 129, 1, 97]) 5 6 rfl
  refine (same_eq A _ 6 c 6 (BV [129, 2, 128, 129, 1, 97]) (fun k => ((([129, 2, 128, 129, 1, 97] : List UInt8).getD k 0).toNat : Int)) _ (bv_items [129, 2, 128, 129, 1, 97]) ((hr.alloc (Nat.le_refl _) _).more (by simp)) hb (by decide)).mono fun e w' ⟨h1, h2⟩ => ⟨h1, (((Below.refl _ _).alloc (Nat.le_refl _) _)).trans (quiet_below h2)⟩
theorem sameI (X : World) (A : Option Addr) (c : Nat) (hr : Reads X X.heap.size 1 A 2 [.int .i64 1, .int .i64 (-1)]) : Calls Try.prog 30 #[.slice A 2 c, .slice (some ⟨X.heap.size, 0, none⟩) 2 2] (X.alloc (.cells #[.int .i64 1, .int .i64 (-1)] 3)) fun e w' =>
    e = .returned (.bool true) ∧ Below X.heap.size X w' := by
  have hb : Reads (X.alloc (.cells #[.int .i64 1, .int .i64 (-1)] 3)) (X.alloc (.cells #[.int .i64 1, .int .i64 (-1)] 3)).heap.size 1 (some ⟨X.heap.size, 0, none⟩) 2 [.int .i64 1, .int .i64 (-1)] := reads_block X [.int .i64 1, .int .i64 (-1)] 3 2 rfl
  refine (sameInts_eq A _ 2 c 2 [.int .i64 1, .int .i64 (-1)] (fun k => ([1, -1] : List Int).getD k 0) _ (by intro k h; match k, h with | 0, _ => rfl | 1, _ => rfl) ((hr.alloc (Nat.le_refl _) _).more (by simp)) hb (by decide)).mono fun e w' ⟨h1, h2⟩ => ⟨h1, (((Below.refl _ _).alloc (Nat.le_refl _) _)).trans (quiet_below h2)⟩
theorem sameT (X : World) (A : Option Addr) (c : Nat) (hr : Reads X X.heap.size 1 A 2 [.string { data := #[] }, .string { data := #[97] }]) : Calls Try.prog 33 #[.slice A 2 c, .slice (some ⟨X.heap.size, 0, none⟩) 2 2] (X.alloc (.cells #[.string { data := #[] }, .string { data := #[97] }] 9)) fun e w' =>
    e = .returned (.bool true) ∧ Below X.heap.size X w' := by
  have hb : Reads (X.alloc (.cells #[.string { data := #[] }, .string { data := #[97] }] 9)) (X.alloc (.cells #[.string { data := #[] }, .string { data := #[97] }] 9)).heap.size 1 (some ⟨X.heap.size, 0, none⟩) 2 [.string { data := #[] }, .string { data := #[97] }] := reads_block X [.string { data := #[] }, .string { data := #[97] }] 9 2 rfl
  refine (sameTexts_eq A _ 2 c 2 [.string { data := #[] }, .string { data := #[97] }] (fun k => ([{ data := #[] }, { data := #[97] }] : List ByteArray).getD k ByteArray.empty) _ (by intro k h; match k, h with | 0, _ => rfl | 1, _ => rfl) ((hr.alloc (Nat.le_refl _) _).more (by simp)) hb (by decide)).mono fun e w' ⟨h1, h2⟩ => ⟨h1, (((Below.refl _ _).alloc (Nat.le_refl _) _)).trans (quiet_below h2)⟩
theorem sameD (X : World) (A : Option Addr) (c : Nat) (hc : 1 ≤ c) (hr : Reads X X.heap.size 16 A 1 (BV [dig12].flatten)) : Calls Try.prog 36 #[.slice A 1 c, .slice (some ⟨X.heap.size, 0, none⟩) 1 1] (X.alloc (.cells #[.int .u8 1, .int .u8 2, .int .u8 0, .int .u8 0, .int .u8 0, .int .u8 0, .int .u8 0, .int .u8 0, .int .u8 0, .int .u8 0, .int .u8 0, .int .u8 0, .int .u8 0, .int .u8 0, .int .u8 0, .int .u8 0] 57)) fun e w' =>
    e = .returned (.bool true) ∧ Below X.heap.size X w' := by
  have hb : Reads (X.alloc (.cells #[.int .u8 1, .int .u8 2, .int .u8 0, .int .u8 0, .int .u8 0, .int .u8 0, .int .u8 0, .int .u8 0, .int .u8 0, .int .u8 0, .int .u8 0, .int .u8 0, .int .u8 0, .int .u8 0, .int .u8 0, .int .u8 0] 57)) (X.alloc (.cells #[.int .u8 1, .int .u8 2, .int .u8 0, .int .u8 0, .int .u8 0, .int .u8 0, .int .u8 0, .int .u8 0, .int .u8 0, .int .u8 0, .int .u8 0, .int .u8 0, .int .u8 0, .int .u8 0, .int .u8 0, .int .u8 0] 57)).heap.size 16 (some ⟨X.heap.size, 0, none⟩) 1 (BV [dig12].flatten) := by
    have h := reads_block X (BV dig12) 57 16 rfl
    exact ⟨rfl, fun _ => h.2 (by omega)⟩
  refine (sameDigests_eq A _ 1 c 1 [dig12] _ (by intro d hd; simp at hd; subst hd; rfl) ((hr.alloc (Nat.le_refl _) _).more (by simp)) hb rfl (by decide) hc (by decide)).mono fun e w' ⟨h1, h2⟩ => ⟨h1, (((Below.refl _ _).alloc (Nat.le_refl _) _)).trans (quiet_below h2)⟩

end Go.Proofs.Ytbkpnfejhaedhaa
