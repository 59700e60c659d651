/- Acts, opened: how many at most. -/
import Derived.Test.YtcibcfghkidncaaGreatDoorGFSto11
import Derived.Test.YtcibcfghkidncaaGreatDoorGMSto7
namespace Go.Proofs.YtcibcfghkidncaaGreatDoor
open Go.ChangeShapes Go.WideShapes Go.ChangeAt Go.RowKit Go.Joins Go.Shelf Go.Lib Go.Deep
set_option maxRecDepth 100000

theorem openActs1 {H:Type} {enc:TypeId × Value → H} {W:World} {b0:Nat} {v:Value} {d:DataW H} {p:List MemPlace}
  (hv:Value.okWide Tryz.prog W .any b0 22 v) (h:DataW.Trod enc Tryz.prog W 0 (fun _ => true) true 22 v d p) (hr:Reach Tryz.prog 22 d) :
  ∃ (A:List AcR) (q:Option Addr) (c:Nat),v = .slice q A.length c ∧ RdA W W.heap.size q A ∧ (∀ a ∈ A,a.ok) ∧ A.length ≤ 1759218604441 := by
 obtain ⟨a0,len,cap,rfl⟩ := okWide_slice Tryz.underlying22 hv
 obtain ⟨fuel,hf⟩ := h
 obtain ⟨L,q,c,e,hl,hb,hq,he⟩ := openList (⟨0,0,0,⟨0,false,[]⟩,0,0⟩:AcR) (IsAc W) Tryz.underlying22 cellsAct (by decide) (fun n cs y h hr => openAct h hr) hf hr
 rw [bytesAct] at hb
 simp only [reachBytes] at hb
 simp [Value.cells] at e
 obtain ⟨rfl,rfl,rfl⟩ := e
 refine ⟨L,a0,cap,rfl,fun i hi => ?_,fun a ha => ?_,by omega⟩
 ·obtain ⟨b,o,e,hlt,cs',⟨q',c',rfl,hR,hq',_⟩,_,hc⟩ := he i hi
  exact ⟨b,o,q',c',e,hlt,⟨hc 0 (by decide),hc 1 (by decide),hc 2 (by decide),hc 3 (by decide),hc 4 (by decide),hc 5 (by decide),hc 6 (by decide),hc 7 (by decide)⟩,hR,hq'⟩
 ·obtain ⟨i,hi,rfl⟩ := List.getElem_of_mem ha
  obtain ⟨_,_,_,_,_,⟨_,_,_,_,_,hok⟩,_⟩ := he i hi
  exact hok

end Go.Proofs.YtcibcfghkidncaaGreatDoor
