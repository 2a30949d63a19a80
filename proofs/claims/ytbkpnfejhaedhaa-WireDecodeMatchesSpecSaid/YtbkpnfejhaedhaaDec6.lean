/-
  getList at digests and GetDigests, by their contracts.
-/
import Derived.Test.YtbkpnfejhaedhaaDec5
namespace Go.Proofs.Ytbkpnfejhaedhaa
open Go.RowKit
set_option linter.unusedVariables false
set_option linter.unusedSimpArgs false

namespace Wr
/-- what decoding a digest answers, where sixteen bytes are there -/
def decD (l : List UInt8) : List UInt8 × Nat × Int := (l.take 16, 16, 0)
end Wr

/-- a list with other elements from a place on -/
def setL : List Value → Nat → List Value → List Value
  | xs, _, [] => xs
  | xs, o, v :: r => setL (xs.set o v) (o + 1) r
theorem setL_append (vs : List Value) : ∀ (A X : List Value), vs.length ≤ X.length → setL (A ++ X) A.length vs = A ++ (vs ++ X.drop vs.length) := by
  induction vs with
  | nil => intro A X _; simp [setL]
  | cons v r ih =>
    intro A X h
    cases X with
    | nil => simp at h
    | cons x X =>
      simp only [setL]
      rw [List.set_append_right _ _ (Nat.le_refl _), Nat.sub_self, List.set_cons_zero]
      have := ih (A ++ [v]) X (by simpa using h)
      simp only [List.length_append, List.length_singleton, List.append_assoc, List.singleton_append, List.cons_append, List.nil_append] at this
      rw [this]
      simp
theorem own_setCells {base : Nat} {e : TypeId} {size g n cap : Nat} (vs : List Value) : ∀ {w : World} {xs : List Value} (o : Nat), w.ownsRow base e size (.slice (some ⟨g, 0, none⟩) n cap) n xs →
    (w.setCells g o vs).ownsRow base e size (.slice (some ⟨g, 0, none⟩) n cap) n (setL xs o vs) := by
  induction vs with
  | nil => intro w xs o h; exact h
  | cons v r ih => intro w xs o h; exact ih (o + 1) (h.stored o v).1
theorem madeZero (n : Nat) : (madeCells #[.int .u8 0, .int .u8 0, .int .u8 0, .int .u8 0, .int .u8 0, .int .u8 0, .int .u8 0, .int .u8 0, .int .u8 0, .int .u8 0, .int .u8 0, .int .u8 0, .int .u8 0, .int .u8 0, .int .u8 0, .int .u8 0] (n * 16)).toList = List.replicate (n * 16) (.int .u8 0) := by
  apply List.ext_getElem?
  intro j
  by_cases hj : j < n * 16
  · have hm : j % 16 < 16 := Nat.mod_lt _ (by omega)
    have h16 : ∀ m, m < 16 → (#[.int .u8 0, .int .u8 0, .int .u8 0, .int .u8 0, .int .u8 0, .int .u8 0, .int .u8 0, .int .u8 0, .int .u8 0, .int .u8 0, .int .u8 0, .int .u8 0, .int .u8 0, .int .u8 0, .int .u8 0, .int .u8 0] : Array Value)[m]! = .int .u8 0 := by
      intro m hm
      match m, hm with
      | 0, _ => rfl
      | 1, _ => rfl
      | 2, _ => rfl
      | 3, _ => rfl
      | 4, _ => rfl
      | 5, _ => rfl
      | 6, _ => rfl
      | 7, _ => rfl
      | 8, _ => rfl
      | 9, _ => rfl
      | 10, _ => rfl
      | 11, _ => rfl
      | 12, _ => rfl
      | 13, _ => rfl
      | 14, _ => rfl
      | 15, _ => rfl
      | _ + 16, h => exact absurd h (by omega)
    rw [madeCells, Array.toList_map, Array.toList_range, List.getElem?_map, List.getElem?_range hj, List.getElem?_replicate, if_pos hj]
    exact congrArg some (h16 (j % 16) hm)
  · rw [List.getElem?_eq_none (by simp [madeCells]; omega), List.getElem?_eq_none (by simp; omega)]

theorem DigInfo : (Try.prog.info? 57).map (fun i => (i.zero, i.size, i.bytes)) = some (some (.agg #[.int .u8 0, .int .u8 0, .int .u8 0, .int .u8 0, .int .u8 0, .int .u8 0, .int .u8 0, .int .u8 0, .int .u8 0, .int .u8 0, .int .u8 0, .int .u8 0, .int .u8 0, .int .u8 0, .int .u8 0, .int .u8 0]), 16, 16) := by kernel_rfl

/-- what stands in memory while a list of digests is decoded -/
structure MidDig (w : World) (ad : Addr) (n c z : Nat) (l : List UInt8) (R : List (List UInt8) × Nat × Int) (k us : Nat) (vs : List (List UInt8)) (wr : World) : Prop where
  len : vs.length = k
  each : ∀ v ∈ vs, v.length = 16
  le : us + (z - k) * 16 ≤ n
  rest : Wr.comb vs us (Wr.decLoop Wr.decD (z - k) (l.drop us)) = R
  b : Blk wr w.heap.size 28 #[.slice (some ad) n c]
  g : Blk wr (w.heap.size + 1) 70 #[.func (.func 49) #[] #[]]
  u : Blk wr (w.heap.size + 1 + 1) 3 #[.int .i64 (us : Int)]
  own : wr.ownsRow (w.heap.size + 1 + 1 + 1) 57 16 (.slice (some ⟨w.heap.size + 1 + 1 + 1, 0, none⟩) z z) z (BV vs.flatten ++ List.replicate ((z - k) * 16) (.int .u8 0))
  old : Below w.heap.size w wr

theorem flat_len (vs : List (List UInt8)) (h : ∀ v ∈ vs, v.length = 16) : vs.flatten.length = vs.length * 16 := by
  induction vs with
  | nil => rfl
  | cons v r ih =>
    rw [List.flatten_cons, List.length_append, h v (by simp), ih (fun x hx => h x (by simp [hx])), List.length_cons, Nat.succ_mul, Nat.add_comm]

theorem MidDig.next {w : World} {ad : Addr} {n c z : Nat} {l : List UInt8} {R : List (List UInt8) × Nat × Int} {k us : Nat} {vs : List (List UInt8)} {wr w5 : World} (h : MidDig w ad n c z l R k us vs wr) (hk : k < z) (hl : n = l.length)
    (hu5 : Blk w5 (w.heap.size + 1 + 1) 3 #[.int .i64 ((us + 16 : Nat) : Int)]) (hg5 : wr.grownBy w5 (some (w.heap.size + 1 + 1))) :
    MidDig w ad n c z l R (k + 1) (us + 16) (vs ++ [(l.drop us).take 16]) (w5.setCells (w.heap.size + 1 + 1 + 1) (k * 16) (BV ((l.drop us).take 16))) := by
  obtain ⟨h1, h1b, h2, h3, h4, h5, h6, h7, h8⟩ := h
  have hz : (z - k) * 16 = 16 + (z - (k + 1)) * 16 := by
    rw [show z - k = (z - (k + 1)) + 1 by omega, Nat.succ_mul, Nat.add_comm]
  have h16 : ((l.drop us).take 16).length = 16 := by simp; omega
  have hB16 : (BV ((l.drop us).take 16)).length = 16 := by rw [BV_len]; exact h16
  have hf := flat_len vs h1b
  have hown := h7.kept hg5 (.inr (by simp [Value.ownBlock]))
  refine ⟨by simp [h1], ?_, by omega, ?_, ?_, ?_, ?_, ?_, ?_⟩
  · intro v hv
    rcases List.mem_append.1 hv with hv | hv
    · exact h1b v hv
    · simp at hv; rw [hv]; exact h16
  · rw [← h3, show z - k = (z - (k + 1)) + 1 by omega, Wr.comb_ok _ _ _ _ _ rfl]
    simp only [Wr.decD, List.drop_drop]
  · exact (h4.grown hg5 (by simp; omega)).farCells _ _ (by omega)
  · exact (h5.grown hg5 (by simp)).farCells _ _ (by omega)
  · exact hu5.farCells _ _ (by omega)
  · have := own_setCells (BV ((l.drop us).take 16)) (k * 16) hown
    rw [show k * 16 = (BV vs.flatten).length by rw [BV_len, hf, h1], setL_append _ _ _ (by simp; omega), hB16, List.drop_replicate, hz] at this
    rw [show 16 + (z - (k + 1)) * 16 - 16 = (z - (k + 1)) * 16 by omega] at this
    rw [show k * 16 = (BV vs.flatten).length by rw [BV_len, hf, h1]]
    rw [List.flatten_append, BV_append, List.append_assoc]
    simpa using this
  · have hb5 : Below w.heap.size w w5 := h8.grown hg5 h8.size (fun j hj => by injection hj with hj; omega)
    exact below_setCells (by omega) _ _ _ hb5

set_option maxHeartbeats 400000 in
set_option maxRecDepth 100000 in
theorem getListDig_err (A : Option Addr) (n c size : Nat) (l : List UInt8) (w : World) (hr : Reads w w.heap.size 1 A n (BV l)) (hm : n ≤ maxLen) (hnc : n ≤ c) (hs1 : 1 ≤ size) (hs2 : size ≤ 16) (he : (Wr.decLen size l).2.2 ≠ 0) :
    Calls Try.prog 48 #[.slice A n c, .int .i64 (size : Int), .func (.func 49) #[] #[]] w fun e w' =>
      e = .returned (.tuple #[.slice none 0 0, .int .i64 0, .int .i64 (Wr.decLen size l).2.2]) ∧ Below w.heap.size w w' := by
  have hr2 : ∀ o o', Reads ((w.alloc o).alloc o') ((w.alloc o).alloc o').heap.size 1 A n (BV l) := fun o o' => (((hr.alloc (Nat.le_refl _) o).alloc (by simp) o').more (by simp; omega))
  have H := fun o o' => getLength_any A n c l size ((w.alloc o).alloc o') (hr2 o o') hm hnc hs1 hs2
  generalize Wr.decLen size l = d at *
  obtain ⟨z, u, er⟩ := d
  simp only at H he ⊢
  have hb' : (er != 0) = true := by rw [bne_iff_ne]; exact he
  have H := hide H
  clear hr hr2 he
  unfold maxLen at hm
  go_enter Try.func48, Try.ntmps48
  go_wp2_with fail
  refine (unhide H _ _).mono ?_
  rintro e w' ⟨rfl, rfl⟩
  go_wp2
  go_ret3
  exact ⟨rfl, ((((Below.refl _ _).alloc (Nat.le_refl _) _).alloc (by simp) _).alloc (by simp; omega) _)⟩

set_option maxHeartbeats 400000 in
set_option maxRecDepth 100000 in
theorem getListDig_ok (ad : Addr) (n c : Nat) (l : List UInt8) (w : World) (hr : Reads w w.heap.size 1 (some ad) n (BV l)) (hm : n ≤ maxLen) (hnc : n ≤ c) (z u : Nat) (hd : Wr.decLen 16 l = ((z : Int), u, 0)) (hz : z ≤ 17592186044416) (hun : u + z * 16 ≤ n)
    (R : List (List UInt8) × Nat × Int) (hR : Wr.comb [] u (Wr.decLoop Wr.decD z (l.drop u)) = R) :
    Calls Try.prog 48 #[.slice (some ad) n c, .int .i64 16, .func (.func 49) #[] #[]] w fun e w' =>
      ∃ v, e = .returned (.tuple #[v, .int .i64 R.2.1, .int .i64 R.2.2]) ∧ (∀ x ∈ R.1, x.length = 16) ∧ w'.ownsRow w.heap.size 57 16 v R.1.length (BV R.1.flatten) ∧ Below w.heap.size w w' := by
  have hn : n = l.length := by have := hr.1; simp [BV] at this; omega
  have hr2 : ∀ o o', Reads ((w.alloc o).alloc o') ((w.alloc o).alloc o').heap.size 1 (some ad) n (BV l) := fun o o' => (((hr.alloc (Nat.le_refl _) o).alloc (by simp) o').more (by simp; omega))
  have H := fun o o' => getLength_any (some ad) n c l 16 ((w.alloc o).alloc o') (hr2 o o') hm hnc (by omega) (by omega)
  rw [hd] at H
  have H := hide H
  have HN := hide hn
  have HR := hide hr
  have HM := hide hm
  have HE := hide hR
  clear hr hr2 hn hd hR
  unfold maxLen at hm
  obtain ⟨i0, hi, hz0, hz1, hz2⟩ := info_parts DigInfo
  have HI := hide hi
  have HZ0 := hide hz0
  have HZ1 := hide hz1
  have HZ2 := hide hz2
  clear hi hz0 hz1 hz2
  go_enter Try.func48, Try.ntmps48
  go_wp2_with fail
  refine (unhide H _ _).mono ?_
  rintro e w' ⟨rfl, rfl⟩
  go_wp2_with (at_make; refine wpList_make_full _ rfl _ _ 24 rfl (w.heap.size + 1 + 1 + 1) 57 i0 (.agg #[.int .u8 0, .int .u8 0, .int .u8 0, .int .u8 0, .int .u8 0, .int .u8 0, .int .u8 0, .int .u8 0, .int .u8 0, .int .u8 0, .int .u8 0, .int .u8 0, .int .u8 0, .int .u8 0, .int .u8 0, .int .u8 0]) 16 Try.underlying24 HI.out HZ0.out HZ1.out _ _ _ _ z rfl rfl rfl rfl (by rw [HZ2.out]; omega) (by unfold maxLen; omega) (by simp) ?_; intro w1 hown1 hgrow1)
  have hs3 : (((w.alloc (.cells #[.slice (some ad) n c] 28)).alloc (.cells #[.func (.func 49) #[] #[]] 70)).alloc (.cells #[.int .i64 (u : Int)] 3)).heap.size = w.heap.size + 1 + 1 + 1 := by simp
  have hM0 : MidDig w ad n c z l R 0 u [] w1 := by
    refine ⟨rfl, (by simp), (by simpa using hun), HE.out, ?_, ?_, ?_, ?_, ?_⟩
    · exact (((Blk.new w _ _).alloc _).alloc _).grown hgrow1 (by simp)
    · have := ((Blk.new (w.alloc (.cells #[.slice (some ad) n c] 28)) 70 #[.func (.func 49) #[] #[]]).alloc (.cells #[.int .i64 (u : Int)] 3)).grown hgrow1 (by simp)
      simpa using this
    · have := (Blk.new ((w.alloc (.cells #[.slice (some ad) n c] 28)).alloc (.cells #[.func (.func 49) #[] #[]] 70)) 3 #[.int .i64 (u : Int)]).grown hgrow1 (by simp)
      simpa using this
    · rw [hs3] at hown1
      have hmz := madeZero z
      simp only [Value.cells] at hown1
      rw [hmz] at hown1
      simpa [BV] using hown1
    · exact ((((Below.refl _ _).alloc (Nat.le_refl _) _).alloc (by simp) _).alloc (by simp; omega) _).grown hgrow1 (by simp; omega) (by simp)
  clear hown1 hgrow1 hs3
  go_loopw [30] (fun i wr => ∃ (k us : Nat) (vs : List (List UInt8)), k ≤ z ∧ i = .int .i64 (k : Int) ∧ MidDig w ad n c z l R k us vs wr) (fun i _ => z - (intOf i).toNat)
  case atStart => exact ⟨0, u, [], Nat.zero_le _, rfl, hM0⟩
  case round =>
    obtain ⟨k, us, vs, hk, rfl, hmid⟩ := hrel
    clear hM0
    by_cases hlt : k < z
    · have hrw : Reads wr wr.heap.size 1 (some ad) n (BV l) := (HR.out.below hmid.old).more hmid.old.size
      have hus : us + 16 ≤ n := by
        have := hmid.le
        have hz : (z - k) * 16 = 16 + (z - (k + 1)) * 16 := by rw [show z - k = (z - (k + 1)) + 1 by omega, Nat.succ_mul, Nat.add_comm]
        omega
      have C := nextDig_any (w.heap.size + 1) w.heap.size (w.heap.size + 1 + 1) ad n c us l wr hmid.g hmid.b hmid.u hrw HM.out hnc hus
      have hnext := fun w5 h5 h6 => hmid.next (w5 := w5) hlt HN.out h5 h6
      have hcs : (BV ((l.drop us).take 16)).length = 16 := by
        have := HN.out
        simp [BV]; omega
      have hone := BV_one ((l.drop us).take 16)
      generalize BV ((l.drop us).take 16) = cs at *
      have C := hide C
      have HX := hide hnext
      have HC := hide hcs
      have HO := hide hone
      clear hnext hrw hcs hone
      go_wp2_with fail
      refine (unhide C).mono ?_
      rintro e w5 ⟨rfl, hu5, hg5⟩
      have hown5 := hmid.own.kept hg5 (.inr (by simp [Value.ownBlock]))
      have hth5 : w5.there (w.heap.size + 1 + 1 + 1) (k * 16) cs.toArray.size := by
        intro j hj
        rw [List.size_toArray, HC.out] at hj
        have hkz : k * 16 + 16 ≤ z * 16 := by omega
        refine ⟨?_, hown5.frozenAt _⟩
        rw [hown5.cellAt _ (by omega)]
        have hl5 := hown5.1
        rw [Option.isSome_iff_exists]
        exact ⟨_, List.getElem?_eq_getElem (by rw [hl5]; omega)⟩
      have HT := hide hth5
      have HM5 := hide (HX.out w5 hu5 hg5)
      clear hth5 hown5 hu5 hg5
      go_wp2_with (with_reducible refine wpList_store_mid rfl 57 (.tmp 40) (.tmp 38) rfl (w.heap.size + 1 + 1 + 1) (k * 16) cs.toArray rfl rfl HT.out ?d1 ?d2 ?_)
      case d1 => rw [List.size_toArray, HC.out]; exact digestSize
      case d2 => simpa using HO.out
      exact ⟨⟨k + 1, us + 16, vs ++ [(l.drop us).take 16], by omega, by go_num, HM5.out⟩, by simp [intOf]; omega⟩
    · obtain rfl : k = z := by omega
      have hcu : wr.cell? ⟨w.heap.size + 1 + 1, 0, none⟩ = some (.int .i64 (us : Int)) := by rw [hmid.u.cell]; rfl
      have hR : R = (vs, us, 0) := by
        have := hmid.rest
        rw [Nat.sub_self, Wr.comb_end] at this
        exact this.symm
      have HR2 := hide hR
      clear hR
      go_wp2
      go_quiet (fail)
      go_wp2
      go_ret3
      have hown := hmid.own
      rw [Nat.sub_self, Nat.zero_mul, List.replicate_zero, List.append_nil] at hown
      refine ⟨.slice (some ⟨w.heap.size + 1 + 1 + 1, 0, none⟩) k k, ?_, ?_, ?_, ?_⟩
      · rw [HR2.out]; rfl
      · rw [HR2.out]; exact hmid.each
      · rw [HR2.out]
        show World.ownsRow _ _ _ _ _ vs.length _
        rw [hmid.len]
        exact own_lower (own_drewN hown _) (by omega)
      · exact below_drewN hmid.old _

/-- GetDigests, for every slice of bytes -/
def digestsOf (l : List UInt8) : List (List UInt8) × Nat × Int := Wr.decList 16 Wr.decD l

theorem getListDig_any (A : Option Addr) (n c : Nat) (l : List UInt8) (w : World) (hr : Reads w w.heap.size 1 A n (BV l)) (hm : n ≤ 17592186044416) (hnc : n ≤ c) :
    Calls Try.prog 48 #[.slice A n c, .int .i64 16, .func (.func 49) #[] #[]] w fun e w' =>
      ∃ v, e = .returned (.tuple #[v, .int .i64 (digestsOf l).2.1, .int .i64 (digestsOf l).2.2]) ∧ (∀ x ∈ (digestsOf l).1, x.length = 16) ∧ w'.ownsRow w.heap.size 57 16 v (digestsOf l).1.length (BV (digestsOf l).1.flatten) ∧ Below w.heap.size w w' := by
  have hn : n = l.length := by have := hr.1; simp [BV] at this; omega
  unfold digestsOf Wr.decList
  by_cases he : (Wr.decLen 16 l).2.2 = 0
  · obtain ⟨_, _, h1, h2, h3⟩ := Wr.decLen_ok (by omega) he
    rw [if_neg (by simpa using he)]
    obtain ⟨ad, rfl, _, _⟩ := hr.2 (by omega)
    exact getListDig_ok ad n c l w hr (by unfold maxLen; omega) hnc (Wr.decLen 16 l).1.toNat (Wr.decLen 16 l).2.1 (by rw [Int.toNat_of_nonneg h1, ← he]) (by omega) (by omega) _ rfl
  · rw [if_pos (by simpa using he)]
    refine (getListDig_err A n c 16 l w hr (by unfold maxLen; omega) hnc (by omega) (by omega) he).mono fun e w' h => ?_
    exact ⟨_, h.1, by simp, World.ownsRow_nil _ _ _ _, h.2⟩

set_option maxHeartbeats 400000 in
set_option maxRecDepth 100000 in
theorem getDigests_any (A : Option Addr) (n c : Nat) (l : List UInt8) (w : World) (hr : Reads w w.heap.size 1 A n (BV l)) (hm : n ≤ 17592186044416) (hnc : n ≤ c) :
    Calls Try.prog 34 #[.slice A n c] w fun e w' =>
      ∃ v, e = .returned (.tuple #[v, .int .i64 (digestsOf l).2.1, .int .i64 (digestsOf l).2.2]) ∧ (∀ x ∈ (digestsOf l).1, x.length = 16) ∧ w'.ownsRow w.heap.size 57 16 v (digestsOf l).1.length (BV (digestsOf l).1.flatten) ∧ Below w.heap.size w w' := by
  have H := hide (getListDig_any A n c l w hr hm hnc)
  generalize digestsOf l = R at *
  clear hr
  go_enter Try.func34, Try.ntmps34
  go_wp2_with fail
  refine (unhide H).mono ?_
  rintro e w' ⟨v, rfl, hx, hown, hb⟩
  have HO := hide hown
  have HX := hide hx
  clear hown hx
  go_wp2
  go_ret3
  exact ⟨v, rfl, HX.out, HO.out, hb⟩

end Go.Proofs.Ytbkpnfejhaedhaa
