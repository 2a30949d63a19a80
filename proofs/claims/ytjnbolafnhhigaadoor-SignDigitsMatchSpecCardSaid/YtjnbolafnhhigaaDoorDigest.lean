/-
  Digest, by contract.
-/
import Derived.Test.YtjnbolafnhhigaaDoorJoin
namespace Go.Proofs.YtjnbolafnhhigaaDoor
open Go.RowKit
set_option linter.unusedVariables false
set_option linter.unusedSimpArgs false

set_option maxHeartbeats 1000000 in
set_option maxRecDepth 100000 in
theorem digest_any (p m : List UInt8) (i : Int) (w : World) (hp : p.length = 16) (hi : Wr.inI i) (hm : m.length ≤ 1099511627000) (hK : KLaid w) :
    Calls Tryd.prog 16 #[.agg (BV p).toArray, .int .i64 i, .string (S m)] w fun e w' => e = .returned (.agg (BV (Sg.digestP p i m)).toArray) ∧ Below w.heap.size w w' := by
  have hel := Wr.enc_le i
  have hbig : (Wr.encL Wr.encB [p, Wr.enc i, m]).length ≤ 1099511627700 := by
    have h1 := encB16 p hp
    unfold Wr.encL
    simp only [List.flatMap_cons, List.flatMap_nil, List.append_nil, List.length_append]
    unfold Wr.encB at *
    simp only [List.length_append] at *
    have h2 := Wr.enc_le ((Wr.enc i).length : Int)
    have h3 := Wr.enc_le (m.length : Int)
    omega
  have CI := hide (fun (W : World) => int_any i W hi)
  have CO := hide (fun A n c (W : World) hr hK => ofD_any 4 A n c [p, Wr.enc i, m] W hr (by have := hr.1; simp at this; omega) hbig hK)
  have hlen : (Sg.digestP p i m).length = 16 := Sg.ofB_len _ _
  have hjo : Sg.ofB 4 [p, Wr.enc i, m] = Sg.digestP p i m := rfl
  rw [hjo] at CO
  generalize Sg.digestP p i m = D at *
  generalize Wr.enc i = I at *
  have HPL := hide hlen
  have HP := hide hp
  have HK := hide hK
  have hzs := zero16
  clear hbig hlen hjo hp hK hel hi
  go_enter Tryd.func16, Tryd.ntmps16
  go_upto_region 1 with fail
  refine name_world fun V hV => ?_
  have D3 := hide (show Dig V w.heap.size p by rw [← hV.out]; exact (Dig.new w p HP.out).alloc _)
  have D6 := hide (show Dig V (w.heap.size + 1) Z16 by
    rw [← hV.out]
    have := Dig.new (w.alloc (.cells (BV p).toArray 23)) Z16 rfl
    rwa [show (w.alloc (.cells (BV p).toArray 23)).heap.size = w.heap.size + 1 by simp] at this)
  have HV := hide (show Below w.heap.size w V by rw [← hV.out]; exact ((Below.refl _ _).alloc (Nat.le_refl _) _).alloc (by simp) _)
  clear hV hzs
  have h3 := D3.out.2.lt
  have h6 := D6.out.2.lt
  have HT := hide (fun (W' : World) (hb : Below V.heap.size V W') => D3.out.below hb h3)
  have HR := hide (fun (W' : World) (hb : Below V.heap.size V W') => D6.out.below hb h6)
  have B0 := Below.refl V.heap.size V
  have hone : ∀ v ∈ BV D, v.oneCell' = true := BV_one D
  have hsz : Option.map (fun x => x.size) (Tryd.prog.info? 23) = some (BV D).length := by rw [BV_len, HPL.out]; exact size16
  go_region_held (fun w' => (convert 51 9 (.slice (some ⟨w.heap.size, 0, none⟩) 16 16)).run Tryd.prog w' = .ok (.string (S p)) w')
    (first | exact (unhide HT _ B0.drew).text | exact (unhide HT _ hX1).text | exact (unhide HT _ (hX1.alloc hX1.size _)).text | exact (unhide HT _ hX2).text | exact Dig.text ⟨HP.out, (unhide HT _ hX2).2.farCells _ _ (by omega)⟩)
    (first
      | (go_at_call 26; refine (unhide CI V.drew).mono ?_; rintro e x1 ⟨v1, rfl, hown1, hb1⟩; obtain ⟨A1, c1, rfl, _, _⟩ := own_slice hown1; have hcv := conv_own hown1 (Below.refl x1.heap.size x1); have hX1 : Below V.heap.size V x1 := from_here B0.drew hb1; clear hown1)
      | (go_at_call 33; refine (CO.out _ _ _ _ (reads_block x1 [VS p, VS I, VS m] 9 3 rfl) (HK.out.below (HV.out.trans ((hX1.alloc hX1.size _).mono HV.out.size)) (Nat.le_refl _))).mono ?_; rintro e x2 ⟨rfl, hb2⟩; have hX2 : Below V.heap.size V x2 := from_here (hX1.alloc hX1.size _) hb2; have ht2 : x2.there (w.heap.size + 1) 0 (BV D).length := (unhide HR _ hX2).2.there_ 0 _ (by rw [BV_len, BV_len, HPL.out]; decide)))
  have F6 := hide (show Dig (x2.setCells (w.heap.size + 1) 0 (BV D)) (w.heap.size + 1) D from (unhide HR _ hX2).stored HPL.out)
  have HB := hide (show Below w.heap.size w (x2.setCells (w.heap.size + 1) 0 (BV D)) from below_setCells (by omega) _ _ _ (HV.out.trans (hX2.mono HV.out.size)))
  clear hone hsz
  go_wp2
  exact bodyPost_ret (v := .agg (BV D).toArray) (ret_dig Tryd.results16 _ rfl F6.out) rfl ⟨rfl, HB.out⟩
end Go.Proofs.YtjnbolafnhhigaaDoor
